import Derived.Test.YtdlaekjofgbjcaaGreatDoorHearJ
import Derived.Test.YtdlaekjofgbjcaaGreatDoorOwnUpZ
import Derived.Test.YtdlaekjofgbjcaaGreatDoorSCopy
import Derived.Test.YtdlaekjofgbjcaaGreatDoorEvS
import Derived.ChangeMaps4
import Derived.MapKept
import Derived.OrdersHeld
/-
 The contracts of impl's reader: numbered, givenBack, repeated. Mine, by template (wip/gen.py).
-/
namespace Go.Proofs.YtdlaekjofgbjcaaGreatDoor
open Go.RowKit
def EvW (w : World) (lo : Nat) (v : Value) (E : Ev) : Prop := ∃ sv, v = .agg #[.int .i64 E.op, .int .i64 E.of_, .string E.holder, .int .i64 E.kind, sv, .string E.text] ∧ w.ownsRow lo 3 1 sv E.secs.length (E.secs.map (Value.int .i64))
theorem evW_nil (w : World) (lo : Nat) (op of_ kind : Int) (h t : ByteArray) : EvW w lo (.agg #[.int .i64 op, .int .i64 of_, .string h, .int .i64 kind, .slice none 0 0, .string t]) ⟨op, of_, h, kind, [], t⟩ := ⟨_, rfl, World.ownsRow_nil _ _ _ _⟩
def RetV (e : Ending) (w' : World) (lo : Nat) (x : Option Ev) : Prop := (∃ v E, x = some E ∧ e = .returned v ∧ EvW w' lo v E) ∨ (x = none ∧ e = NoLine)
def ofI (l : List UInt8) : Option Ev := match numI l with
 | some (v, _) => some ⟨0, v, ⟨#[]⟩, 0, [], ⟨#[]⟩⟩
 | none => none
def backI (l : List UInt8) : Option Ev := match numI l with
 | some (v, r) => some ⟨0, v, mkB (wordI r).1, 0, [], ⟨#[]⟩⟩
 | none => none
def repI (l : List UInt8) : Option Ev := match numI l with
 | some (v, r) => some ⟨0, v, mkB (Lib.cut r [58, 32]).1, 0, [], mkB (Lib.cut r [58, 32]).2.1⟩
 | none => none
def RetM (e : Ending) (w' : World) (q : Nat) (l : List UInt8) : Prop := (∃ v r, numI l = some (v, r) ∧ e = .returned (.agg #[.int .i64 0, .int .i64 v, .string ⟨#[]⟩, .int .i64 0, .slice none 0 0, .string ⟨#[]⟩]) ∧ RB w' q (mkB r) ∧ r.length ≤ l.length) ∨ (numI l = none ∧ e = NoLine)
def putN (W : World) (R : Nat) (v : Int) : World := (((((W.setCell ⟨R, 0, none⟩ (.int .i64 0)).setCell ⟨R, 1, none⟩ (.int .i64 v)).setCell ⟨R, 2, none⟩ (.string ⟨#[]⟩)).setCell ⟨R, 3, none⟩ (.int .i64 0)).setCell ⟨R, 4, none⟩ (.slice none 0 0)).setCell ⟨R, 5, none⟩ (.string ⟨#[]⟩)
theorem fr_new {w w1 : World} {q : Nat} {o : Obj} (hf : Fr (fun x => x = q) (w.alloc o) w1) : Fr (fun x => x = q) w w1 := (Fr.of_below (below1 w o)).trans hf
theorem fr_cut {w w1 : World} {q R : Nat} (hf : Fr (fun x => x = q ∨ x = R) w w1) (hR : w.heap.size ≤ R) : Fr (fun x => x = q) w w1 := ⟨hf.os, hf.tape, hf.output, hf.size, fun i hi hn => hf.block i hi (fun e => by rcases e with e | e; exact hn e; omega)⟩
set_option maxHeartbeats 4000000 in
theorem numbered_any (q : Nat) (s : ByteArray) (w : World) (hs : s.size < 4294967281) (hg : Gl w) (hq : 15 ≤ q) (h : RB w q s) :
  Calls Tryz.prog 108 #[.pointer (some ⟨q, 0, none⟩)] w fun e w' => RetM e w' q (bl s) ∧ Fr (fun x => x = q) w w' := by
 have hql := h.lt; have B1 := below1 w (.cells #[.int .i64 0, .int .i64 0, .string ⟨#[]⟩, .int .i64 0, .slice none 0 0, .string ⟨#[]⟩] 32); have F1 : Fr (fun _ => False) w (w.alloc (.cells #[.int .i64 0, .int .i64 0, .string ⟨#[]⟩, .int .i64 0, .slice none 0 0, .string ⟨#[]⟩] 32)) := Fr.of_below B1
 have HN : Hid (Calls Tryz.prog 121 #[.pointer (some ⟨q, 0, none⟩)] (w.alloc (.cells #[.int .i64 0, .int .i64 0, .string ⟨#[]⟩, .int .i64 0, .slice none 0 0, .string ⟨#[]⟩] 32)) fun e w' => RetN e w' q (bl s) ∧ Fr (fun x => x = q) (w.alloc (.cells #[.int .i64 0, .int .i64 0, .string ⟨#[]⟩, .int .i64 0, .slice none 0 0, .string ⟨#[]⟩] 32)) w') :=
  number_any q s _ hs (hg.fr F1 (fun x e => e.elim)) hq (h.fr F1 (fun e => e))
 clear F1 B1 hg h
 go_enter Tryz.func108, Tryz.ntmps108
 go_wp2_with fail
 refine HN.out.mono ?_; rintro e w1 ⟨hr, hf⟩; have x1 := (hf.block w.heap.size (by simp) (by omega)).trans (Deep.blk_alloc_new _ _); obtain ⟨e0, e1, e2, e3, e4, e5⟩ := ev_cells x1; have z1 : w.heap.size < w1.heap.size := by have := hf.size; simp at this; omega
 have g0 : w1.frozen? ⟨w.heap.size, 0, none⟩ = false := frozen_of_box x1; have g1 : w1.frozen? ⟨w.heap.size, 1, none⟩ = false := frozen_of_box x1; have g2 : w1.frozen? ⟨w.heap.size, 2, none⟩ = false := frozen_of_box x1; have g3 : w1.frozen? ⟨w.heap.size, 3, none⟩ = false := frozen_of_box x1; have g4 : w1.frozen? ⟨w.heap.size, 4, none⟩ = false := frozen_of_box x1; have g5 : w1.frozen? ⟨w.heap.size, 5, none⟩ = false := frozen_of_box x1; have HF : Hid (Fr (fun x => x = q) w w1) := fr_new hf; clear hf x1 HN; rcases hr with ⟨v, r, hn, rfl, hb, hl⟩ | ⟨hn, rfl⟩
 ·
  have HB : Hid (RB w1 q (mkB r) ∧ numI (bl s) = some (v, r) ∧ r.length ≤ (bl s).length) := ⟨hb, hn, hl⟩; clear hb hn hl; go_wp2; have P : Fr (fun x => x = w.heap.size) w1 (putN w1 w.heap.size v) := fr2 (fr2 (fr2 (fr2 (fr2 (fr2 (Fr.refl _ _)))))); refine bodyPost_ret (v := .agg #[.int .i64 0, .int .i64 v, .string ⟨#[]⟩, .int .i64 0, .slice none 0 0, .string ⟨#[]⟩]) (by simp [results, Tryz.results108, go_sem, e0, e1, e2, e3, e4, e5]) rfl ?_; exact ⟨Or.inl ⟨v, r, HB.out.2.1, rfl, HB.out.1.fr P (by omega), HB.out.2.2⟩, fr_cut (R := w.heap.size) ((HF.out.mono (fun _ e => Or.inl e)).trans (P.mono (fun _ e => Or.inr e))) (Nat.le_refl _)⟩
 ·
  have HE : Hid (numI (bl s) = none) := hn; clear hn; go_wp2; exact ⟨rfl, Or.inr ⟨HE.out, rfl⟩, HF.out⟩
theorem fr_cut2 {w w1 : World} {q : Nat} (hf : Fr (fun x => x = q ∨ w.heap.size ≤ x) w w1) : Fr (fun x => x = q) w w1 := ⟨hf.os, hf.tape, hf.output, hf.size, fun i hi hn => hf.block i hi (fun e => by rcases e with e | e; exact hn e; omega)⟩
set_option maxHeartbeats 4000000 in
theorem givenBack_any (q : Nat) (s : ByteArray) (w : World) (hs : s.size < 4294967281) (hg : Gl w) (hq : 15 ≤ q) (h : RB w q s) :
  Calls Tryz.prog 110 #[.pointer (some ⟨q, 0, none⟩)] w fun e w' => RetV e w' w.heap.size (backI (bl s)) ∧ Fr (fun x => x = q) w w' := by
 have hql := h.lt; have B1 := below1 w (.cells #[.int .i64 0, .int .i64 0, .string ⟨#[]⟩, .int .i64 0, .slice none 0 0, .string ⟨#[]⟩] 32); have F1 : Fr (fun _ => False) w (w.alloc (.cells #[.int .i64 0, .int .i64 0, .string ⟨#[]⟩, .int .i64 0, .slice none 0 0, .string ⟨#[]⟩] 32)) := Fr.of_below B1
 have HN : Hid (Calls Tryz.prog 108 #[.pointer (some ⟨q, 0, none⟩)] (w.alloc (.cells #[.int .i64 0, .int .i64 0, .string ⟨#[]⟩, .int .i64 0, .slice none 0 0, .string ⟨#[]⟩] 32)) fun e w' => RetM e w' q (bl s) ∧ Fr (fun x => x = q) (w.alloc (.cells #[.int .i64 0, .int .i64 0, .string ⟨#[]⟩, .int .i64 0, .slice none 0 0, .string ⟨#[]⟩] 32)) w') :=
  numbered_any q s _ hs (hg.fr F1 (fun x e => e.elim)) hq (h.fr F1 (fun e => e))
 have HG : Hid (Gl w) := hg; have hsl : (bl s).length = s.size := bl_size s; clear F1 B1 hg h
 go_enter Tryz.func110, Tryz.ntmps110
 go_wp2_with fail
 refine HN.out.mono ?_; rintro e w1 ⟨hr, hf⟩; have HX : Hid (w1.heap[w.heap.size]? = some (.cells #[.int .i64 0, .int .i64 0, .string ⟨#[]⟩, .int .i64 0, .slice none 0 0, .string ⟨#[]⟩] 32 (0, 0))) := (hf.block w.heap.size (by simp) (by omega)).trans (Deep.blk_alloc_new _ _); have z1 : w.heap.size < w1.heap.size := by have := hf.size; simp at this; omega
 have HF : Hid (Fr (fun x => x = q) w w1) := fr_new hf; clear hf HN; rcases hr with ⟨v, r, hn, rfl, hb, hl⟩ | ⟨hn, rfl⟩
 ·
  have HB : Hid (RB w1 q (mkB r) ∧ Gl w1) := ⟨hb, HG.out.fr HF.out (fun x e => by omega)⟩
  have HE : Hid (backI (bl s) = some ⟨0, v, mkB (wordI r).1, 0, [], ⟨#[]⟩⟩) := by
   show backI (bl s) = _
   unfold backI; rw [hn]
  have hrs : (mkB r).size < 4294967281 := by rw [mkB_size]; omega
  clear hb hn hl; have F2 : Fr (fun _ => False) w1 (w1.alloc (.cells #[.int .i64 0, .int .i64 v, .string ⟨#[]⟩, .int .i64 0, .slice none 0 0, .string ⟨#[]⟩] 32)) := Fr.of_below (below1 _ _)
  have HW : Hid (Calls Tryz.prog 97 #[.pointer (some ⟨q, 0, none⟩)] (w1.alloc (.cells #[.int .i64 0, .int .i64 v, .string ⟨#[]⟩, .int .i64 0, .slice none 0 0, .string ⟨#[]⟩] 32)) fun e w' => e = .returned (.string (mkB (wordI (bl (mkB r))).1)) ∧ RB w' q (mkB (wordI (bl (mkB r))).2) ∧ Fr (fun x => x = q) (w1.alloc (.cells #[.int .i64 0, .int .i64 v, .string ⟨#[]⟩, .int .i64 0, .slice none 0 0, .string ⟨#[]⟩] 32)) w') :=
   rword_any q (mkB r) _ hrs (HB.out.2.fr F2 (fun x e => e.elim)) (HB.out.1.fr F2 (fun e => e))
  rw [bl_mkB] at HW; clear F2
  go_wp2_with fail
  refine HW.out.mono ?_; rintro e w2 ⟨rfl, -, hf2⟩; have y1 := (hf2.block w1.heap.size (by simp) (by omega)).trans (Deep.blk_alloc_new _ _); have x2 := (hf2.block w.heap.size (by simp; omega) (by omega)).trans ((Deep.blk_alloc_lt _ _ _ z1).trans HX.out); have HF2 : Hid (Fr (fun x => x = q) w w2) := HF.out.trans (fr_new hf2); have z2 : w1.heap.size < w2.heap.size := by have := hf2.size; simp at this; omega
  obtain ⟨e0, e1, e2, e3, e4, e5⟩ := ev_cells x2; obtain ⟨d0, d1, d2, d3, d4, d5⟩ := ev_cells y1; have k2 : w2.frozen? ⟨w1.heap.size, 2, none⟩ = false := frozen_of_box y1; have g0 : w2.frozen? ⟨w.heap.size, 0, none⟩ = false := frozen_of_box x2; have g1 : w2.frozen? ⟨w.heap.size, 1, none⟩ = false := frozen_of_box x2; have g2 : w2.frozen? ⟨w.heap.size, 2, none⟩ = false := frozen_of_box x2; have g3 : w2.frozen? ⟨w.heap.size, 3, none⟩ = false := frozen_of_box x2; have g4 : w2.frozen? ⟨w.heap.size, 4, none⟩ = false := frozen_of_box x2; have g5 : w2.frozen? ⟨w.heap.size, 5, none⟩ = false := frozen_of_box x2; have ne : ¬ w1.heap.size = w.heap.size := by omega
  clear hf2 HW x2 y1; go_wp2; refine bodyPost_ret (v := .agg #[.int .i64 0, .int .i64 v, .string (mkB (wordI r).1), .int .i64 0, .slice none 0 0, .string ⟨#[]⟩]) (by simp [results, Tryz.results110, go_sem, e0, e1, e2, e3, e4, e5]) rfl ?_; refine ⟨Or.inl ⟨_, _, HE.out, rfl, evW_nil _ _ _ _ _ _ _⟩, ?_⟩; have P : Fr (fun x => x = q ∨ w.heap.size ≤ x) w2 _ := (((((((Fr.refl (fun x => x = q ∨ w.heap.size ≤ x) w2).setCell (p := ⟨w1.heap.size, 2, none⟩) (Or.inr (by show w.heap.size ≤ w1.heap.size; omega)) (.string (mkB (wordI r).1))).setCell (p := ⟨w.heap.size, 0, none⟩) (Or.inr (Nat.le_refl _)) (.int .i64 0)).setCell (p := ⟨w.heap.size, 1, none⟩) (Or.inr (Nat.le_refl _)) (.int .i64 v)).setCell (p := ⟨w.heap.size, 2, none⟩) (Or.inr (Nat.le_refl _)) (.string (mkB (wordI r).1))).setCell (p := ⟨w.heap.size, 3, none⟩) (Or.inr (Nat.le_refl _)) (.int .i64 0)).setCell (p := ⟨w.heap.size, 4, none⟩) (Or.inr (Nat.le_refl _)) (.slice none 0 0)).setCell (p := ⟨w.heap.size, 5, none⟩) (Or.inr (Nat.le_refl _)) (.string ⟨#[]⟩); exact fr_cut2 ((HF2.out.mono (fun _ e => Or.inl e)).trans P)
 ·
  have HE : Hid (backI (bl s) = none) := by
   show backI (bl s) = _
   unfold backI; rw [hn]
  clear hn; go_wp2; exact ⟨rfl, Or.inr ⟨HE.out, rfl⟩, HF.out⟩
set_option maxHeartbeats 4000000 in
theorem repeated_any (q : Nat) (s : ByteArray) (w : World) (hs : s.size < 4294967281) (hg : Gl w) (hq : 15 ≤ q) (h : RB w q s) :
  Calls Tryz.prog 109 #[.pointer (some ⟨q, 0, none⟩)] w fun e w' => RetV e w' w.heap.size (repI (bl s)) ∧ Fr (fun x => x = q) w w' := by
 have hql := h.lt; have B1 := below1 w (.cells #[.int .i64 0, .int .i64 0, .string ⟨#[]⟩, .int .i64 0, .slice none 0 0, .string ⟨#[]⟩] 32); have F1 : Fr (fun _ => False) w (w.alloc (.cells #[.int .i64 0, .int .i64 0, .string ⟨#[]⟩, .int .i64 0, .slice none 0 0, .string ⟨#[]⟩] 32)) := Fr.of_below B1
 have HN : Hid (Calls Tryz.prog 108 #[.pointer (some ⟨q, 0, none⟩)] (w.alloc (.cells #[.int .i64 0, .int .i64 0, .string ⟨#[]⟩, .int .i64 0, .slice none 0 0, .string ⟨#[]⟩] 32)) fun e w' => RetM e w' q (bl s) ∧ Fr (fun x => x = q) (w.alloc (.cells #[.int .i64 0, .int .i64 0, .string ⟨#[]⟩, .int .i64 0, .slice none 0 0, .string ⟨#[]⟩] 32)) w') :=
  numbered_any q s _ hs (hg.fr F1 (fun x e => e.elim)) hq (h.fr F1 (fun e => e))
 have HG : Hid (Gl w) := hg; have hsl : (bl s).length = s.size := bl_size s; clear F1 B1 hg h
 go_enter Tryz.func109, Tryz.ntmps109
 go_wp2_with fail
 refine HN.out.mono ?_; rintro e w1 ⟨hr, hf⟩; have HX : Hid (w1.heap[w.heap.size]? = some (.cells #[.int .i64 0, .int .i64 0, .string ⟨#[]⟩, .int .i64 0, .slice none 0 0, .string ⟨#[]⟩] 32 (0, 0))) := (hf.block w.heap.size (by simp) (by omega)).trans (Deep.blk_alloc_new _ _); have z1 : w.heap.size < w1.heap.size := by have := hf.size; simp at this; omega
 have HF : Hid (Fr (fun x => x = q) w w1) := fr_new hf; clear hf HN; rcases hr with ⟨v, r, hn, rfl, hb, hl⟩ | ⟨hn, rfl⟩
 ·
  have HB : Hid (RB w1 q (mkB r) ∧ Gl w1) := ⟨hb, HG.out.fr HF.out (fun x e => by omega)⟩
  have HE : Hid (repI (bl s) = some ⟨0, v, mkB (Lib.cut r [58, 32]).1, 0, [], mkB (Lib.cut r [58, 32]).2.1⟩) := by
   show repI (bl s) = _
   unfold repI; rw [hn]
  have hrs : (mkB r).size < 4294967281 := by rw [mkB_size]; omega
  clear hb hn hl; obtain ⟨m, hm⟩ := HB.out.2.ml; have hm2 : (w1.alloc (.cells #[.int .i64 0, .int .i64 v, .string ⟨#[]⟩, .int .i64 0, .slice none 0 0, .string ⟨#[]⟩] 32)).cell? ⟨9, 0, none⟩ = some (.int .i64 m) := cell_fr hm (Fr.of_below (S := fun _ => False) (below1 _ _)) (fun e => e); have HQ : Hid (RB (w1.alloc (.cells #[.int .i64 0, .int .i64 v, .string ⟨#[]⟩, .int .i64 0, .slice none 0 0, .string ⟨#[]⟩] 32)) q (mkB r)) := HB.out.1.fr (Fr.of_below (S := fun _ => False) (below1 _ _)) (fun e => e); obtain ⟨c0, -⟩ := rb_cell HB.out.1; have cq : (w1.alloc (.cells #[.int .i64 0, .int .i64 v, .string ⟨#[]⟩, .int .i64 0, .slice none 0 0, .string ⟨#[]⟩] 32)).cell? ⟨q, 0, none⟩ = some (.string (mkB r)) := (rb_cell HQ.out).1
  have HW : Hid (Calls Tryz.prog 77 #[.string (mkB r), .string ⟨#[58, 32]⟩] (w1.alloc (.cells #[.int .i64 0, .int .i64 v, .string ⟨#[]⟩, .int .i64 0, .slice none 0 0, .string ⟨#[]⟩] 32)) fun e w' => e = .returned (.tuple #[.string (mkB (Lib.cut r [58, 32]).1), .string (mkB (Lib.cut r [58, 32]).2.1), .bool (Lib.cut r [58, 32]).2.2]) ∧ ∃ n, w' = (w1.alloc (.cells #[.int .i64 0, .int .i64 v, .string ⟨#[]⟩, .int .i64 0, .slice none 0 0, .string ⟨#[]⟩] 32)).drewN n) := by
   have := Tryz.strings_Cut (mkB r) ⟨#[58, 32]⟩ m (w1.alloc (.cells #[.int .i64 0, .int .i64 v, .string ⟨#[]⟩, .int .i64 0, .slice none 0 0, .string ⟨#[]⟩] 32)) hrs hm2; have e : (mkB r).data.toList = r := bl_mkB r; rw [e] at this; exact this
  have hqq : q < w1.heap.size := by omega
  clear hm hm2
  go_wp2_with fail
  refine HW.out.mono ?_; rintro e w2 ⟨rfl, n, hw2⟩; have hf2 : Fr (fun x => x = q) (w1.alloc (.cells #[.int .i64 0, .int .i64 v, .string ⟨#[]⟩, .int .i64 0, .slice none 0 0, .string ⟨#[]⟩] 32)) w2 := Fr.of_below (hw2 ▸ below_drewN (Below.refl _ _) n); have y1 := (hf2.block w1.heap.size (by simp) (by omega)).trans (Deep.blk_alloc_new _ _); have x2 := (hf2.block w.heap.size (by simp; omega) (by omega)).trans ((Deep.blk_alloc_lt _ _ _ z1).trans HX.out); have HF2 : Hid (Fr (fun x => x = q) w w2) := HF.out.trans (fr_new hf2); have z2 : w1.heap.size < w2.heap.size := by have := hf2.size; simp at this; omega
  obtain ⟨e0, e1, e2, e3, e4, e5⟩ := ev_cells x2; obtain ⟨d0, d1, d2, d3, d4, d5⟩ := ev_cells y1; have k2 : w2.frozen? ⟨w1.heap.size, 2, none⟩ = false := frozen_of_box y1; have k5 : w2.frozen? ⟨w1.heap.size, 5, none⟩ = false := frozen_of_box y1; have g0 : w2.frozen? ⟨w.heap.size, 0, none⟩ = false := frozen_of_box x2; have g1 : w2.frozen? ⟨w.heap.size, 1, none⟩ = false := frozen_of_box x2; have g2 : w2.frozen? ⟨w.heap.size, 2, none⟩ = false := frozen_of_box x2; have g3 : w2.frozen? ⟨w.heap.size, 3, none⟩ = false := frozen_of_box x2; have g4 : w2.frozen? ⟨w.heap.size, 4, none⟩ = false := frozen_of_box x2; have g5 : w2.frozen? ⟨w.heap.size, 5, none⟩ = false := frozen_of_box x2; have ne : ¬ w1.heap.size = w.heap.size := by omega
  obtain ⟨ca, hca⟩ : ∃ x, x = (Lib.cut r [58, 32]).1 := ⟨_, rfl⟩; obtain ⟨cb, hcb⟩ : ∃ x, x = (Lib.cut r [58, 32]).2.1 := ⟨_, rfl⟩; rw [← hca, ← hcb] at HE ⊢; clear hf2 HW x2 y1 hca hcb hw2 c0 cq; go_wp2; refine bodyPost_ret (v := .agg #[.int .i64 0, .int .i64 v, .string (mkB ca), .int .i64 0, .slice none 0 0, .string (mkB cb)]) (by simp [results, Tryz.results109, go_sem, e0, e1, e2, e3, e4, e5]) rfl ?_; refine ⟨Or.inl ⟨_, _, HE.out, rfl, evW_nil _ _ _ _ _ _ _⟩, ?_⟩; have P : Fr (fun x => x = q ∨ w.heap.size ≤ x) w2 _ := ((((((((Fr.refl (fun x => x = q ∨ w.heap.size ≤ x) w2).setCell (p := ⟨w1.heap.size, 2, none⟩) (Or.inr (by show w.heap.size ≤ w1.heap.size; omega)) (.string (mkB ca))).setCell (p := ⟨w1.heap.size, 5, none⟩) (Or.inr (by show w.heap.size ≤ w1.heap.size; omega)) (.string (mkB cb))).setCell (p := ⟨w.heap.size, 0, none⟩) (Or.inr (Nat.le_refl _)) (.int .i64 0)).setCell (p := ⟨w.heap.size, 1, none⟩) (Or.inr (Nat.le_refl _)) (.int .i64 v)).setCell (p := ⟨w.heap.size, 2, none⟩) (Or.inr (Nat.le_refl _)) (.string (mkB ca))).setCell (p := ⟨w.heap.size, 3, none⟩) (Or.inr (Nat.le_refl _)) (.int .i64 0)).setCell (p := ⟨w.heap.size, 4, none⟩) (Or.inr (Nat.le_refl _)) (.slice none 0 0)).setCell (p := ⟨w.heap.size, 5, none⟩) (Or.inr (Nat.le_refl _)) (.string (mkB cb)); exact fr_cut2 ((HF2.out.mono (fun _ e => Or.inl e)).trans P)
 ·
  have HE : Hid (repI (bl s) = none) := by
   show repI (bl s) = _
   unfold repI; rw [hn]
  clear hn; go_wp2; exact ⟨rfl, Or.inr ⟨HE.out, rfl⟩, HF.out⟩
end Go.Proofs.YtdlaekjofgbjcaaGreatDoor
/-
 A map of the readings, filled in whatever order. Mine, by template (wip/gen.py).
-/
namespace Go.Proofs.YtdlaekjofgbjcaaGreatDoor
open Go.RowKit
def rdF (j : Nat) : Nat := if j = 1 then 107 else if j = 3 then 109 else if j = 4 then 110 else 108
def rdV (q j : Nat) : Value := .agg #[.int .i64 (j : Int), .func (.func (rdF j)) #[.pointer (some ⟨q, 0, none⟩)] #[]]
def MI (w : World) (q b : Nat) (d : Nat → Bool) : Prop :=
 ∃ (es : Array MapEntry) (clock : Nat), w.heap[b]? = some (.map es clock) ∧ (∀ e ∈ es.toList, ∃ j, 1 ≤ j ∧ j ≤ 9 ∧ d j = true ∧ e.key = .string (wordB j) ∧ e.val = rdV q j) ∧ ∀ j, 1 ≤ j → j ≤ 9 → d j = true → ∃ e ∈ es.toList, e.key = .string (wordB j)
theorem wordB_inj {i j : Nat} (hi : 1 ≤ i ∧ i ≤ 9) (hj : 1 ≤ j ∧ j ≤ 9) (h : wordB i = wordB j) : i = j := by
 have a := opOf_word (k := (i : Int)) ⟨by omega, by omega⟩; have b := opOf_word (k := (j : Int)) ⟨by omega, by omega⟩; rw [h, b] at a; omega
theorem MI.insert {w : World} {q b j : Nat} {d : Nat → Bool} (h : MI w q b d) (h1 : 1 ≤ j) (h9 : j ≤ 9) (hd : d j = false) :
  ∃ w', (Instr.mapUpdate 173 (.map (some b)) (.string (wordB j)) (rdV q j)).run Tryz.prog w = .ok () w' ∧ MI w' q b (fun i => d i || decide (i = j)) ∧ Fr (fun x => x = b) w w' := by
 obtain ⟨es, clock, hb, he, hk⟩ := h; have hkey : MapKept.IsKey .string (.string (wordB j)) := trivial
 have hks : ∀ x ∈ es.toList, MapKept.IsKey .string x.key := fun x hx => by
  obtain ⟨i, -, -, -, e, -⟩ := he x hx; rw [e]
  trivial
 have hu : Tryz.prog.underlying 9 = some .string := Tryz.underlying9; rcases MapKept.findNow_spec hkey es.toList 0 hks with ⟨f1, f2⟩ | ⟨i, e0, f1, f2, f3⟩
 ·
  refine ⟨{ w with heap := w.heap.setIfInBounds b (.map (es.push ⟨.string (wordB j), rdV q j, clock⟩) (clock + 1)) }, ?_, ⟨es.push ⟨.string (wordB j), rdV q j, clock⟩, clock + 1, (MapKept.heap_set hb).1, ?_, ?_⟩, ?_⟩
  · simp [Instr.mapUpdate, run_underlying Tryz.underlying173, MapKept.run_getObj_map hb, MapKept.run_checkKey hu hkey, MapKept.run_findKey hu f1, MapKept.run_setObj_map _ hb, Result.andThen]
  ·
   intro e hx; simp only [Array.toList_push, List.mem_append, List.mem_singleton] at hx; rcases hx with hx | rfl
   ·
    obtain ⟨i, a1, a2, a3, a4, a5⟩ := he e hx; exact ⟨i, a1, a2, by show (d i || _) = true; rw [a3]; rfl, a4, a5⟩
   · exact ⟨j, h1, h9, by simp, rfl, rfl⟩
  ·
   intro i i1 i9 hi; simp only [Array.toList_push, List.mem_append, List.mem_singleton]
   by_cases e : i = j
   ·
    subst e; exact ⟨_, Or.inr rfl, rfl⟩
   ·
    have : d i = true := by simpa [e] using hi
    obtain ⟨x, x1, x2⟩ := hk i i1 i9 this; exact ⟨x, Or.inl x1, x2⟩
  · exact ⟨rfl, rfl, rfl, by simp, fun i _ hn => (MapKept.heap_set hb).2 i hn⟩
 ·
  obtain ⟨i', i1, i9, hd', hk', -⟩ := he e0 (List.mem_of_getElem? f2); rw [f3] at hk'; have : wordB j = wordB i' := by injection hk'
  have := wordB_inj ⟨h1, h9⟩ ⟨i1, i9⟩ this; subst this; rw [hd] at hd'; cases hd'
theorem opOf_cases (l : List UInt8) : opOf l = 0 ∨ ∃ j : Nat, 1 ≤ j ∧ j ≤ 9 ∧ l = bl (wordB j) := by
 unfold opOf
 repeat (split; · next h => first | exact Or.inr ⟨1, by omega, by omega, h⟩ | exact Or.inr ⟨2, by omega, by omega, h⟩ | exact Or.inr ⟨3, by omega, by omega, h⟩ | exact Or.inr ⟨4, by omega, by omega, h⟩ | exact Or.inr ⟨5, by omega, by omega, h⟩ | exact Or.inr ⟨6, by omega, by omega, h⟩ | exact Or.inr ⟨7, by omega, by omega, h⟩ | exact Or.inr ⟨8, by omega, by omega, h⟩ | exact Or.inr ⟨9, by omega, by omega, h⟩)
 exact Or.inl rfl
theorem MI.look {w : World} {q b : Nat} (h : MI w q b (fun _ => true)) (s : ByteArray) :
  (Instr.lookup 173 (.map (some b)) (.string s) true).run Tryz.prog w = .ok (.tuple (if opOf (bl s) = 0 then #[.agg #[.int .i64 0, .nilFunc], .bool false] else #[rdV q (opOf (bl s)).toNat, .bool true])) w := by
 obtain ⟨es, clock, hb, he, hk⟩ := h; have hkey : MapKept.IsKey .string (.string s) := trivial
 have hks : ∀ x ∈ es.toList, MapKept.IsKey .string x.key := fun x hx => by
  obtain ⟨i, -, -, -, e, -⟩ := he x hx; rw [e]
  trivial
 have hu : Tryz.prog.underlying 9 = some .string := Tryz.underlying9; have hz : (zeroValue 171).run Tryz.prog w = .ok (.agg #[.int .i64 0, .nilFunc]) w := by kernel_rfl
 rcases MapKept.findNow_spec hkey es.toList 0 hks with ⟨f1, f2⟩ | ⟨i, e0, f1, f2, f3⟩
 ·
  have e0 : opOf (bl s) = 0 := by
   rcases (show opOf (bl s) = 0 ∨ ∃ j : Nat, 1 ≤ j ∧ j ≤ 9 ∧ bl s = bl (wordB j) from opOf_cases _) with h | ⟨j, j1, j9, hj⟩
   · exact h
   ·
    obtain ⟨x, x1, x2⟩ := hk j j1 j9 rfl; exact absurd (x2.trans (congrArg Value.string (bl_inj hj).symm)) (f2 x x1)
  rw [if_pos e0]; simp [Instr.lookup, run_underlying Tryz.underlying173, MapKept.run_getObj_map hb, MapKept.run_checkKey hu hkey, MapKept.run_findKey hu f1, hz, Result.andThen]
 ·
  obtain ⟨j, j1, j9, -, hk', hv⟩ := he e0 (List.mem_of_getElem? f2); rw [f3] at hk'; have hsj : s = wordB j := by injection hk'
  have e1 : opOf (bl s) = (j : Int) := by rw [hsj]; exact opOf_word ⟨by omega, by omega⟩
  rw [e1, if_neg (by omega)]; simp [Instr.lookup, run_underlying Tryz.underlying173, MapKept.run_getObj_map hb, MapKept.run_checkKey hu hkey, MapKept.run_findKey hu f1, hv, Result.andThen]
end Go.Proofs.YtdlaekjofgbjcaaGreatDoor
