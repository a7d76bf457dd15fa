/-
 The contracts of impl's reader: word, kind, number, numbered, givenBack, repeated. Mine, by template (wip/gen.py).
-/
import Derived.Test.YtdlaekjofgbjcaaGreatDoorHearA
import Derived.Test.YtdlaekjofgbjcaaGreatDoorHearC
import Derived.Test.YtdlaekjofgbjcaaGreatDoorShelf
import Derived.WalkLawsBesides
namespace Go.Proofs.YtdlaekjofgbjcaaGreatDoor
open Go.RowKit
def mkB (l : List UInt8) : ByteArray := ⟨l.toArray⟩
theorem bl_mkB (l : List UInt8) : bl (mkB l) = l := by simp [bl, mkB]
theorem mkB_size (l : List UInt8) : (mkB l).size = l.length := by rw [← bl_size, bl_mkB]
theorem mkB_bl (s : ByteArray) : mkB (bl s) = s := mk_bl s
def RB (w : World) (q : Nat) (s : ByteArray) : Prop := w.heap[q]? = some (.cells #[.string s] 127 (0, 0))
theorem rb_cell {w : World} {q : Nat} {s : ByteArray} (h : RB w q s) : w.cell? ⟨q, 0, none⟩ = some (.string s) ∧ w.frozen? ⟨q, 0, none⟩ = false := by
 unfold RB at h; simp [World.cell?, World.frozen?, h]
theorem RB.lt {w : World} {q : Nat} {s : ByteArray} (h : RB w q s) : q < w.heap.size := (Array.getElem?_eq_some_iff.1 h).1
theorem RB.fr {S : Nat → Prop} {w w' : World} {q : Nat} {s : ByteArray} (h : RB w q s) (hf : Fr S w w') (hq : ¬ S q) : RB w' q s := (hf.block q h.lt hq).trans h
theorem RB.set {w : World} {q : Nat} {s : ByteArray} (h : RB w q s) (t : ByteArray) : RB (w.setCell ⟨q, 0, none⟩ (.string t)) q t := (box_set' h _).trans rfl
structure Gl (w : World) : Prop where
 ml : ∃ m, w.cell? ⟨9, 0, none⟩ = some (.int .i64 m)
 es : ∃ te pe, w.cell? ⟨13, 0, none⟩ = some (.iface te pe)
 er : ∃ te pe, w.cell? ⟨14, 0, none⟩ = some (.iface te pe)
theorem cell_fr {S : Nat → Prop} {w w' : World} {p : Addr} {v : Value} (h : w.cell? p = some v) (hf : Fr S w w') (hp : ¬ S p.block) : w'.cell? p = some v :=
 (World.cell?_of_block (a := p) (hf.block p.block (World.block_lt_of_cell? _ _ h) hp)).trans h
theorem Gl.fr {S : Nat → Prop} {w w' : World} (h : Gl w) (hf : Fr S w w') (hS : ∀ x, S x → 15 ≤ x) : Gl w' := by
 obtain ⟨⟨m, h1⟩, ⟨a, b, h2⟩, ⟨c, d, h3⟩⟩ := h; have n : ∀ x, x < 15 → ¬ S x := fun x hx e => by have := hS x e; omega
 exact ⟨⟨m, cell_fr h1 hf (n _ (by decide))⟩, ⟨a, b, cell_fr h2 hf (n _ (by decide))⟩, ⟨c, d, cell_fr h3 hf (n _ (by decide))⟩⟩
abbrev NoLine : Ending := .panicked [{ v := .iface 124 (.agg #[]), recovered := false }]
set_option maxHeartbeats 2000000 in
theorem rword_any (q : Nat) (s : ByteArray) (w : World) (hs : s.size < 4294967281) (hg : Gl w) (h : RB w q s) :
  Calls Tryz.prog 97 #[.pointer (some ⟨q, 0, none⟩)] w fun e w' => e = .returned (.string (mkB (wordI (bl s)).1)) ∧ RB w' q (mkB (wordI (bl s)).2) ∧ Fr (fun x => x = q) w w' := by
 obtain ⟨m, hm⟩ := hg.ml; obtain ⟨c0, f0⟩ := rb_cell h; have HR : Hid (RB w q s) := h; clear h hg
 go_enter Tryz.func97, Tryz.ntmps97
 go_wp2_with fail
 refine (Tryz.strings_Cut s ⟨#[32]⟩ m _ hs hm).mono ?_; rintro e w1 ⟨rfl, n, hw1⟩; have hb : Below w.heap.size w w1 := hw1 ▸ below_drewN (Below.refl _ _) n; have HR1 : Hid (RB w1 q s ∧ Fr (fun x => x = q) w w1) := ⟨HR.out.fr (Fr.of_below (S := fun _ => False) hb) (fun e => e), Fr.of_below hb⟩; obtain ⟨d0, g0⟩ := rb_cell HR1.out.1; clear hw1 hb c0 f0 hm; go_wp2; go_ret; exact ⟨rfl, HR1.out.1.set _, HR1.out.2.trans (fr2 (Fr.refl _ _))⟩
set_option maxHeartbeats 2000000 in
theorem rkind_any (q : Nat) (s : ByteArray) (w : World) (hs : s.size < 4294967281) (hg : Gl w) (h : RB w q s) :
  Calls Tryz.prog 120 #[.pointer (some ⟨q, 0, none⟩)] w fun e w' => ((kindOfL (wordI (bl s)).1 = 0 ∧ e = NoLine) ∨ (¬ kindOfL (wordI (bl s)).1 = 0 ∧ e = .returned (.int .i64 (kindOfL (wordI (bl s)).1)))) ∧ RB w' q (mkB (wordI (bl s)).2) ∧ Fr (fun x => x = q) w w' := by
 have hw := rword_any q s w hs hg h; obtain ⟨l, hl⟩ : ∃ l, (wordI (bl s)).1 = l := ⟨_, rfl⟩; obtain ⟨r, hr⟩ : ∃ r, (wordI (bl s)).2 = r := ⟨_, rfl⟩; rw [hl, hr] at hw ⊢; clear hl hr; have HW : Hid (Calls Tryz.prog 97 #[.pointer (some ⟨q, 0, none⟩)] w fun e w' => e = .returned (.string (mkB l)) ∧ RB w' q (mkB r) ∧ Fr (fun x => x = q) w w') := hw; clear hw
 have tl : ∀ k : List UInt8, ((mkB l).toList == k) = decide (l = k) := fun k => by
  rw [ByteArray.toList_eq]; have : (mkB l).data.toList = l := bl_mkB l; rw [this]
  by_cases e : l = k
  ·
   rw [decide_eq_true e, e]; exact beq_self_eq_true _
  ·
   rw [decide_eq_false e]; exact beq_eq_false_iff_ne.2 e
 go_enter Tryz.func120, Tryz.ntmps120
 go_wp2_with fail
 refine HW.out.mono ?_; rintro e w1 ⟨rfl, h1, h2⟩; have H1 : Hid (RB w1 q (mkB r) ∧ Fr (fun x => x = q) w w1) := ⟨h1, h2⟩; clear h1 h2
 by_cases k1 : l = [112, 97, 115, 115]
 ·
  have t1 : ((mkB l).toList == [112, 97, 115, 115]) = true := (tl _).trans (decide_eq_true k1); have e : Hid (kindOfL l = 1) := by show kindOfL l = 1; unfold kindOfL; rw [if_pos k1]
  clear tl k1; go_wp2; go_ret; exact ⟨Or.inr ⟨by rw [e.out]; decide, by rw [e.out]; rfl⟩, H1.out.1, H1.out.2⟩
 ·
  have t1 : ((mkB l).toList == [112, 97, 115, 115]) = false := (tl _).trans (decide_eq_false k1)
  by_cases k2 : l = [119, 111, 114, 107]
  ·
   have t2 : ((mkB l).toList == [119, 111, 114, 107]) = true := (tl _).trans (decide_eq_true k2); have e : Hid (kindOfL l = 2) := by show kindOfL l = 2; unfold kindOfL; rw [if_neg k1, if_pos k2]
   clear tl k1 k2; go_wp2; go_ret; exact ⟨Or.inr ⟨by rw [e.out]; decide, by rw [e.out]; rfl⟩, H1.out.1, H1.out.2⟩
  ·
   have t2 : ((mkB l).toList == [119, 111, 114, 107]) = false := (tl _).trans (decide_eq_false k2); have e : Hid (kindOfL l = 0) := by show kindOfL l = 0; unfold kindOfL; rw [if_neg k1, if_neg k2]
   clear tl k1 k2; go_wp2; exact ⟨rfl, Or.inl ⟨e.out, rfl⟩, H1.out.1, H1.out.2⟩
def RetN (e : Ending) (w' : World) (q : Nat) (l : List UInt8) : Prop := (∃ v r, numI l = some (v, r) ∧ e = .returned (.int .i64 v) ∧ RB w' q (mkB r) ∧ r.length ≤ l.length) ∨ (numI l = none ∧ e = NoLine)
set_option maxHeartbeats 2000000 in
theorem number_any (q : Nat) (s : ByteArray) (w : World) (hs : s.size < 4294967281) (hg : Gl w) (hq : 15 ≤ q) (h : RB w q s) :
  Calls Tryz.prog 121 #[.pointer (some ⟨q, 0, none⟩)] w fun e w' => RetN e w' q (bl s) ∧ Fr (fun x => x = q) w w' := by
 have hw := rword_any q s w hs hg h; have l1 := cut_fst_len (bl s) [32]; have l2 := cut_snd_len (bl s) [32]; rw [bl_size] at l1 l2
 have en : numI (bl s) = match Lib.atoiAll (wordI (bl s)).1 with
  | .ok v => some (v, (wordI (bl s)).2)
  | _ => none := rfl
 have m1 : (wordI (bl s)).1.length ≤ s.size := l1; have m2 : (wordI (bl s)).2.length ≤ s.size := l2; obtain ⟨l, hl⟩ : ∃ l, (wordI (bl s)).1 = l := ⟨_, rfl⟩; obtain ⟨r, hr⟩ : ∃ r, (wordI (bl s)).2 = r := ⟨_, rfl⟩; rw [hl, hr] at hw en; rw [hl] at m1; rw [hr] at m2; clear hl hr l1 l2; have HW : Hid (Calls Tryz.prog 97 #[.pointer (some ⟨q, 0, none⟩)] w fun e w' => e = .returned (.string (mkB l)) ∧ RB w' q (mkB r) ∧ Fr (fun x => x = q) w w') := hw
 have HE : Hid (numI (bl s) = match Lib.atoiAll l with
  | .ok v => some (v, r)
  | _ => none) := en
 have HG : Hid (Gl w) := hg; have ms : (mkB l).size ≤ 281474976710656 := by rw [mkB_size]; omega
 have ea : (mkB l).data.toList = l := bl_mkB l; have lq : Hid (r.length ≤ (bl s).length) := by show _ ≤ _; rw [bl_size]; exact m2
 clear hw en hg h
 go_enter Tryz.func121, Tryz.ntmps121
 go_wp2_with fail
 refine HW.out.mono ?_; rintro e w1 ⟨rfl, h1, h2⟩; have H1 : Hid (RB w1 q (mkB r) ∧ Fr (fun x => x = q) w w1 ∧ Gl w1) := ⟨h1, h2, HG.out.fr h2 (fun x e => by omega)⟩; clear h1 h2
 go_wp2_with fail
 cases ha : Lib.atoiAll l with
 | ok v =>
  refine (Tryz.strconv_Atoi_ok (mkB l) (by omega) v (by rw [ea]; exact ha) w1).mono ?_; rintro e w2 ⟨rfl, hw2⟩
  have hb : Below w1.heap.size w1 w2 := by
   rcases hw2 with rfl | ⟨t, rfl⟩
   · exact Below.refl _ _
   · exact Lib.bytesWorld_below _ _ _
  have H2 : Hid (RB w2 q (mkB r) ∧ Fr (fun x => x = q) w w2) := ⟨H1.out.1.fr (Fr.of_below (S := fun _ => False) hb) (fun e => e), H1.out.2.1.trans (Fr.of_below hb)⟩
  have HE2 : Hid (numI (bl s) = some (v, r)) := by
   have := HE.out; rw [ha] at this; exact this
  clear hw2 hb ha; go_wp2; go_ret; exact ⟨Or.inl ⟨v, r, HE2.out, rfl, H2.out.1, lq.out⟩, H2.out.2⟩
 | «syntax» =>
  obtain ⟨te, pe, hc⟩ := H1.out.2.2.es; refine (Tryz.strconv_Atoi_syntax (mkB l) ms (by rw [ea]; exact ha) (.iface te pe) w1 hc (Or.inr ⟨te, pe, rfl⟩)).mono ?_; rintro e w2 ⟨N, rfl, hN, -, hb⟩; have H2 : Hid (Fr (fun x => x = q) w w2) := H1.out.2.1.trans (Fr.of_below hb)
  have HE2 : Hid (numI (bl s) = none) := by
   have := HE.out; rw [ha] at this; exact this
  clear hb ha hc; go_wp2; exact ⟨rfl, Or.inr ⟨HE2.out, rfl⟩, H2.out⟩
 | range =>
  obtain ⟨te, pe, hc⟩ := H1.out.2.2.er; refine (Tryz.strconv_Atoi_range (mkB l) ms (by rw [ea]; exact ha) (.iface te pe) w1 hc (Or.inr ⟨te, pe, rfl⟩)).mono ?_; rintro e w2 ⟨N, rfl, hN, -, hb⟩; have H2 : Hid (Fr (fun x => x = q) w w2) := H1.out.2.1.trans (Fr.of_below hb)
  have HE2 : Hid (numI (bl s) = none) := by
   have := HE.out; rw [ha] at this; exact this
  clear hb ha hc; go_wp2; exact ⟨rfl, Or.inr ⟨HE2.out, rfl⟩, H2.out⟩
end Go.Proofs.YtdlaekjofgbjcaaGreatDoor
