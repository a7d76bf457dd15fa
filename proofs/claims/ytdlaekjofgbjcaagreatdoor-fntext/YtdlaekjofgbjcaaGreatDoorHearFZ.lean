import Derived.Test.YtdlaekjofgbjcaaGreatDoorHearD
import Derived.Test.YtdlaekjofgbjcaaGreatDoorHearN
import Derived.Test.YtdlaekjofgbjcaaGreatDoorHearY
import Derived.Test.YtdlaekjofgbjcaaGreatDoorSLine
import Derived.Test.YtdlaekjofgbjcaaGreatDoorBaseZ
import Derived.Deep.Cut
/-
 What spec.Hear keeps while it reads. Mine, by program (wip/heare.py), by template (wip/gen.py).
-/
namespace Go.Proofs.YtdlaekjofgbjcaaGreatDoor
open Go.RowKit
def RdTo (w : World) (q : Nat) (s : ByteArray) (l : List UInt8) (bad : Bool) : Prop := ∃ a, a ≤ s.size ∧ l = (bl s).drop a ∧ RdAt w q s a bad
theorem bl_extract (s : ByteArray) (a k : Nat) : bl (s.extract a k) = ((bl s).drop a).take (k - a) := by
 unfold bl; rw [ByteArray.data_extract, Array.toList_extract, List.extract_eq_take_drop]
theorem low_iff {b : UInt8} : low b = true ↔ lowN b.toNat := by unfold low lowN; simp
theorem wordR_at {s : ByteArray} {a k : Nat} (h1 : a ≤ k) (h2 : k ≤ s.size) (h3 : ∀ j, a ≤ j → j < k → lowN (chr s j)) (h4 : k < s.size → ¬ lowN (chr s k)) : wordR ((bl s).drop a) = (bl (s.extract a k), (bl s).drop k) := by
 have e : (bl s).drop a = bl (s.extract a k) ++ (bl s).drop k := by
  rw [bl_extract]; have := (List.take_append_drop (k - a) ((bl s).drop a)).symm; rw [List.drop_drop, show a + (k - a) = k by omega] at this; exact this
 rw [e]; refine wordR_all _ _ (fun b hb => ?_) (fun b r hr => ?_)
 ·
  rw [bl_extract] at hb; obtain ⟨i, hi, rfl⟩ := List.getElem_of_mem hb; have hi2 : i < k - a := by simp only [List.length_take] at hi; omega
  rw [List.getElem_take, List.getElem_drop]; have hk : a + i < (bl s).length := by rw [bl_size]; omega
  have := h3 (a + i) (by omega) (by omega); rw [low_iff]
  have ec : chr s (a + i) = ((bl s)[a + i]).toNat := by
   unfold chr; have e : s.data.toList[a + i]? = some ((bl s)[a + i]) := List.getElem?_eq_getElem hk; rw [List.getD_eq_getElem?_getD, e]; rfl
  rw [ec] at this; exact this
 ·
  by_cases hk : k < s.size
  ·
   obtain ⟨b', e1, e2, -⟩ := drop_chr s k hk; rw [e1] at hr; simp only [List.cons.injEq] at hr; have h := h4 hk; rw [← e2, hr.1] at h; cases hl : low b with
   | false => rfl
   | true => exact absurd (low_iff.1 hl) h
  ·
   rw [List.drop_eq_nil_of_le (by rw [bl_size]; omega)] at hr; cases hr
theorem takeR_at {s t : ByteArray} {a : Nat} (ha : a ≤ s.size) : (Stands s t a → takeR (bl t) ((bl s).drop a) = (false, (bl s).drop (a + t.size))) ∧ (¬ Stands s t a → takeR (bl t) ((bl s).drop a) = (true, (bl s).drop a)) := by
 have hl : ((bl s).drop a).length = s.size - a := by rw [List.length_drop, bl_size]
 have hp : (bl t).isPrefixOf ((bl s).drop a) = true ↔ Stands s t a := by
  rw [List.isPrefixOf_iff_prefix]; constructor
  ·
   intro h; have h1 := h.length_le; rw [hl, bl_size] at h1; refine ⟨by omega, bl_inj ?_⟩; rw [bl_extract, show a + t.size - a = (bl t).length by rw [bl_size]; omega]; exact (List.prefix_iff_eq_take.1 h).symm
  ·
   intro h; have e := congrArg bl h.2; rw [bl_extract, show a + t.size - a = t.size by omega] at e; rw [← e]; exact List.take_prefix _ _
 constructor
 ·
  intro h; unfold takeR; rw [if_pos (hp.2 h), List.drop_drop, bl_size]
 ·
  intro h; unfold takeR; rw [if_neg (fun e => h (hp.1 e))]
theorem drop_nil_iff {s : ByteArray} {a : Nat} (ha : a ≤ s.size) : (bl s).drop a = [] ↔ a = s.size := by
 rw [List.drop_eq_nil_iff, bl_size]; omega
structure SH (w wr : World) (s : ByteArray) (l : List UInt8) (bad : Bool) (E : Ev) (ad : Option Addr) (c : Nat) : Prop where
 rd : RdTo wr (w.heap.size + 1) s l bad
 ex : EX wr (w.heap.size + 3) (w.heap.size + 2) E ad c
 ans : wr.heap[w.heap.size]? = some (.cells #[.bool false, .int .i64 0, .int .i64 0, .string ⟨#[]⟩, .int .i64 0, .slice none 0 0, .string ⟨#[]⟩] 46 (0, 0))
 bel : Below w.heap.size w wr
theorem RdTo.of {S : Nat → Prop} {w w' : World} {q : Nat} {s : ByteArray} {l : List UInt8} {bad : Bool} (h : RdTo w q s l bad) (hf : Fr S w w') (hq : ¬ S q) : RdTo w' q s l bad := by
 obtain ⟨a, h1, h2, h3⟩ := h; exact ⟨a, h1, h2, (hf.block q (Array.getElem?_eq_some_iff.1 h3).1 hq).trans h3⟩
theorem SH.sz {w wr : World} {s : ByteArray} {l : List UInt8} {bad : Bool} {E : Ev} {ad : Option Addr} {c : Nat} (h : SH w wr s l bad E ad c) : w.heap.size + 2 < wr.heap.size := h.ex.lt
theorem SH.len {w wr : World} {s : ByteArray} {l : List UInt8} {bad : Bool} {E : Ev} {ad : Option Addr} {c : Nat} (h : SH w wr s l bad E ad c) : l.length ≤ s.size := by
 obtain ⟨a, h1, h2, -⟩ := h.rd; rw [h2, List.length_drop, bl_size]; omega
theorem SH.below {w wr w' : World} {s : ByteArray} {l : List UInt8} {bad : Bool} {E : Ev} {ad : Option Addr} {c : Nat} (h : SH w wr s l bad E ad c) (hb : Below wr.heap.size wr w') : SH w w' s l bad E ad c :=
 ⟨h.rd.of (Fr.of_below (S := fun _ => False) hb) (fun e => e), h.ex.below hb, (hb.block _ (by have := h.sz; omega)).trans h.ans, h.bel.trans (hb.mono (by have := h.sz; omega))⟩
theorem SH.call {w wr w' : World} {s : ByteArray} {l l' : List UInt8} {bad bad' : Bool} {E : Ev} {ad : Option Addr} {c : Nat} (h : SH w wr s l bad E ad c) (hf : Fr (fun x => x = w.heap.size + 1) wr w') (hr : RdTo w' (w.heap.size + 1) s l' bad') : SH w w' s l' bad' E ad c :=
 ⟨hr, h.ex.fr hf (by omega) (fun g hg e => by omega), (hf.block _ (by have := h.sz; omega) (by omega)).trans h.ans, h.bel.trans (hf.below (by have := h.sz; omega) (fun i e => by omega))⟩
theorem SH.word {w wr : World} {s : ByteArray} {l : List UInt8} {bad : Bool} {E : Ev} {ad : Option Addr} {c : Nat} (h : SH w wr s l bad E ad c) (hs : s.size ≤ 1048576) :
  Calls Tryz.prog 45 #[.pointer (some ⟨w.heap.size + 1, 0, none⟩)] wr fun e w' => e = .returned (.string (mkB (wordR l).1)) ∧ SH w w' s (wordR l).2 bad E ad c := by
 obtain ⟨a, h1, h2, h3⟩ := h.rd; refine (word_any _ s a bad wr (by omega) h1 h3).mono ?_; rintro e w' ⟨k, k1, k2, k3, k4, k5, k6, k7⟩; have ew := wordR_at k1 k2 k3 k4; rw [← h2] at ew; rw [ew]; exact ⟨by rw [k5, mkB_bl], h.call k7 ⟨k, k2, rfl, k6⟩⟩
theorem SH.take {w wr : World} {s : ByteArray} {l : List UInt8} {bad : Bool} {E : Ev} {ad : Option Addr} {c : Nat} (h : SH w wr s l bad E ad c) (hs : s.size ≤ 1048576) (t : ByteArray) (ht : t.size ≤ 100) :
  Calls Tryz.prog 46 #[.pointer (some ⟨w.heap.size + 1, 0, none⟩), .string t] wr fun e w' => e = .returned (.tuple #[]) ∧ SH w w' s (takeR (bl t) l).2 (bad || (takeR (bl t) l).1) E ad c := by
 obtain ⟨a, h1, h2, h3⟩ := h.rd; refine (take_any _ s t a bad wr (by omega) ht h1 h3).mono ?_; rintro e w' ⟨rfl, hr, hf⟩; obtain ⟨t1, t2⟩ := takeR_at (t := t) h1; rcases hr with ⟨q1, q2⟩ | ⟨q1, q2⟩
 ·
  have e1 := t1 q1; rw [← h2] at e1; rw [e1]; exact ⟨rfl, h.call hf ⟨a + t.size, q1.1, rfl, by rw [Bool.or_false]; exact q2⟩⟩
 ·
  have e1 := t2 q1; rw [← h2] at e1; rw [e1]; exact ⟨rfl, h.call hf ⟨a, h1, h2, by rw [Bool.or_true]; exact q2⟩⟩
theorem SH.num {w wr : World} {s : ByteArray} {l : List UInt8} {bad : Bool} {E : Ev} {ad : Option Addr} {c : Nat} (h : SH w wr s l bad E ad c) (hs : s.size ≤ 1048576) :
  Calls Tryz.prog 47 #[.pointer (some ⟨w.heap.size + 1, 0, none⟩)] wr fun e w' => e = .returned (.int .i64 ((numR 0 0 l).2.1 : Int)) ∧ SH w w' s (numR 0 0 l).2.2 (bad || decide ((numR 0 0 l).1 = 0)) E ad c := by
 obtain ⟨a, h1, h2, h3⟩ := h.rd; refine (num_any _ s a bad wr (by omega) h1 h3).mono ?_; rintro e w' ⟨k, m, k1, k2, k3, k4, k5, k6⟩; rw [← h2] at k3; rw [k3]; exact ⟨k4, h.call k6 ⟨k, k2, rfl, k5⟩⟩
theorem SH.upd {w wr w' : World} {s : ByteArray} {l : List UInt8} {bad : Bool} {E E' : Ev} {ad : Option Addr} {c : Nat} (h : SH w wr s l bad E ad c) (hf : Fr (fun x => x = w.heap.size + 2) wr w') (hb : w'.heap[w.heap.size + 2]? = some (.cells #[.int .i64 E'.op, .int .i64 E'.of_, .string E'.holder, .int .i64 E'.kind, .slice ad E'.secs.length c, .string E'.text] 32 (0, 0))) (hse : E'.secs = E.secs) : SH w w' s l bad E' ad c :=
 ⟨h.rd.of hf (by omega), ⟨hb, by rw [hse]; exact owns_of_block h.ex.own (fun g hg => hf.block g (owns_lt h.ex.own hg).2 (by have := (owns_lt h.ex.own hg).1; omega)), by rw [hse]; exact h.ex.ne⟩, (hf.block _ (by have := h.sz; omega) (by omega)).trans h.ans, h.bel.trans (hf.below (by have := h.sz; omega) (fun i e => by omega))⟩
theorem SH.setOp_ {w wr : World} {s : ByteArray} {l : List UInt8} {bad : Bool} {E : Ev} {ad : Option Addr} {c : Nat} (h : SH w wr s l bad E ad c) (x : Int) : SH w (wr.setCell ⟨w.heap.size + 2, 0, none⟩ (.int .i64 x)) s l bad ⟨x, E.of_, E.holder, E.kind, E.secs, E.text⟩ ad c := h.upd (E' := ⟨x, E.of_, E.holder, E.kind, E.secs, E.text⟩) (fr2 (Fr.refl _ _)) ((box_set h.ex.box _).trans rfl) rfl
theorem SH.setOf {w wr : World} {s : ByteArray} {l : List UInt8} {bad : Bool} {E : Ev} {ad : Option Addr} {c : Nat} (h : SH w wr s l bad E ad c) (x : Int) : SH w (wr.setCell ⟨w.heap.size + 2, 1, none⟩ (.int .i64 x)) s l bad ⟨E.op, x, E.holder, E.kind, E.secs, E.text⟩ ad c := h.upd (E' := ⟨E.op, x, E.holder, E.kind, E.secs, E.text⟩) (fr2 (Fr.refl _ _)) ((box_set h.ex.box _).trans rfl) rfl
theorem SH.setHolder {w wr : World} {s : ByteArray} {l : List UInt8} {bad : Bool} {E : Ev} {ad : Option Addr} {c : Nat} (h : SH w wr s l bad E ad c) (x : ByteArray) : SH w (wr.setCell ⟨w.heap.size + 2, 2, none⟩ (.string x)) s l bad ⟨E.op, E.of_, x, E.kind, E.secs, E.text⟩ ad c := h.upd (E' := ⟨E.op, E.of_, x, E.kind, E.secs, E.text⟩) (fr2 (Fr.refl _ _)) ((box_set h.ex.box _).trans rfl) rfl
theorem SH.setKind {w wr : World} {s : ByteArray} {l : List UInt8} {bad : Bool} {E : Ev} {ad : Option Addr} {c : Nat} (h : SH w wr s l bad E ad c) (x : Int) : SH w (wr.setCell ⟨w.heap.size + 2, 3, none⟩ (.int .i64 x)) s l bad ⟨E.op, E.of_, E.holder, x, E.secs, E.text⟩ ad c := h.upd (E' := ⟨E.op, E.of_, E.holder, x, E.secs, E.text⟩) (fr2 (Fr.refl _ _)) ((box_set h.ex.box _).trans rfl) rfl
theorem SH.setText {w wr : World} {s : ByteArray} {l : List UInt8} {bad : Bool} {E : Ev} {ad : Option Addr} {c : Nat} (h : SH w wr s l bad E ad c) (x : ByteArray) : SH w (wr.setCell ⟨w.heap.size + 2, 5, none⟩ (.string x)) s l bad ⟨E.op, E.of_, E.holder, E.kind, E.secs, x⟩ ad c := h.upd (E' := ⟨E.op, E.of_, E.holder, E.kind, E.secs, x⟩) (fr2 (Fr.refl _ _)) ((box_set h.ex.box _).trans rfl) rfl
theorem SH.push {w wr w' : World} {s : ByteArray} {l : List UInt8} {bad : Bool} {E : Ev} {ad : Option Addr} {c : Nat} (h : SH w wr s l bad E ad c) (L : List Int) (aU : Option Addr) (cU : Nat) (hgr : wr.grownBy w' (Value.slice ad E.secs.length c).ownBlock) (hown : w'.ownsRow (w.heap.size + 3) 3 1 (.slice aU L.length cU) L.length (L.map (Value.int .i64))) (hb : (Value.slice aU L.length cU).ownBlock = (Value.slice ad E.secs.length c).ownBlock ∨ (Value.slice aU L.length cU).ownBlock = some wr.heap.size) :
  SH w (w'.setCell ⟨w.heap.size + 2, 4, none⟩ (.slice aU L.length cU)) s l bad ⟨E.op, E.of_, E.holder, E.kind, L, E.text⟩ aU cU := by
 have f1 : Fr (fun x => (Value.slice ad E.secs.length c).ownBlock = some x) wr w' := ⟨hgr.os, hgr.tape, hgr.output, hgr.size, fun j hj hn => hgr.block j hj (fun e => hn e.symm)⟩; have hlo : ∀ x, (Value.slice ad E.secs.length c).ownBlock = some x → w.heap.size + 3 ≤ x := fun x hx => (owns_lt h.ex.own hx).1; have f2 : Fr (fun x => w.heap.size + 2 ≤ x) wr (w'.setCell ⟨w.heap.size + 2, 4, none⟩ (.slice aU L.length cU)) := Fr.setCell (S := fun x => w.heap.size + 2 ≤ x) (f1.mono (fun x e => by have := hlo x e; show w.heap.size + 2 ≤ x; omega)) (p := ⟨w.heap.size + 2, 4, none⟩) (Nat.le_refl _) _; exact ⟨h.rd.of f2 (by omega), h.ex.push L aU cU hgr hown hb, (f2.block _ (by have := h.sz; omega) (by omega)).trans h.ans, h.bel.trans (f2.below (by have := h.sz; omega) (fun i e => by omega))⟩
theorem SH.facts {w wr : World} {s : ByteArray} {l : List UInt8} {bad : Bool} {E : Ev} {ad : Option Addr} {c : Nat} (h : SH w wr s l bad E ad c) : ∃ a : Nat, (a ≤ s.size ∧ l = (bl s).drop a) ∧ (wr.cell? ⟨w.heap.size + 1, 1, none⟩ = some (.int .i64 (a : Int)) ∧ wr.cell? ⟨w.heap.size + 1, 2, none⟩ = some (.bool bad)) := by
 obtain ⟨a, h1, h2, h3⟩ := h.rd; obtain ⟨-, q1, q2⟩ := rd_cells h3; exact ⟨a, ⟨h1, h2⟩, q1, q2⟩
end Go.Proofs.YtdlaekjofgbjcaaGreatDoor
/-
 The contract of spec.Hear. Mine, by program (wip/hearf.py), by template (wip/gen.py).
-/
namespace Go.Proofs.YtdlaekjofgbjcaaGreatDoor
open Go.RowKit
def wd (k : Nat) : ByteArray := if k = 0 then ⟨#[]⟩ else wordB k
theorem l3words_all (w : World) :
  Calls Tryz.prog 38 #[] w fun e w' => ∃ b, e = .returned (.slice (some ⟨b, 0, none⟩) 10 10) ∧ w.heap.size ≤ b ∧ (∀ k : Nat, k < 10 → w'.cell? ⟨b, k, none⟩ = some (.string (wd k))) ∧ Below w.heap.size w w' := by
 go_enter Tryz.func38, Tryz.ntmps38
 go_wp2; go_ret; refine ⟨_, rfl, Nat.le_refl _, fun k hk => ?_, below1 _ _⟩
 rcases (show k = 0 ∨ k = 1 ∨ k = 2 ∨ k = 3 ∨ k = 4 ∨ k = 5 ∨ k = 6 ∨ k = 7 ∨ k = 8 ∨ k = 9 by omega) with rfl | rfl | rfl | rfl | rfl | rfl | rfl | rfl | rfl | rfl <;> simp [go_sem, wd, wordB]
def opK (l : List UInt8) (k : Nat) : Int := if opOf l < (k : Int) then opOf l else 0
theorem opOf_le (l : List UInt8) : 0 ≤ opOf l ∧ opOf l ≤ 9 := by
 rcases opOf_cases l with h | ⟨j, h1, h9, h⟩
 · rw [h]; omega
 ·
  have := opOf_word (k := (j : Int)) ⟨by omega, by omega⟩; rw [h, this]; omega
theorem opK_zero (l : List UInt8) : opK l 0 = 0 := by
 have := opOf_le l; unfold opK; split
 · omega
 · rfl
theorem opK_ten (l : List UInt8) : opK l 10 = opOf l := by
 have := opOf_le l; unfold opK; rw [if_pos (by omega)]
theorem opK_hit {l : List UInt8} {k : Nat} (hk : 0 < k) (hk9 : k < 10) (h : l = bl (wd k)) : opK l (k + 1) = (k : Int) := by
 have e : wd k = wordB k := if_neg (by omega); have := opOf_word (k := (k : Int)) ⟨by omega, by omega⟩; rw [e] at h; unfold opK; rw [h, this, if_pos (by omega)]
theorem opK_miss {l : List UInt8} {k : Nat} (h : k = 0 ∨ (k < 10 ∧ l ≠ bl (wd k))) : opK l (k + 1) = opK l k := by
 have h0 := opOf_le l
 by_cases hk0 : k = 0
 ·
  subst hk0; rw [opK_zero]; unfold opK; split
  · omega
  · rfl
 have h2 : k < 10 ∧ l ≠ bl (wd k) := by
  rcases h with h | h
  · exact absurd h hk0
  · exact h
 have ne : ¬ opOf l = (k : Int) := by
  rcases opOf_cases l with h | ⟨j, j1, j9, hj⟩
  · omega
  ·
   have := opOf_word (k := (j : Int)) ⟨by omega, by omega⟩; intro e; rw [hj, this] at e; have : j = k := by omega
   subst this; have e2 : wd j = wordB j := if_neg (by omega); exact h2.2 (by rw [e2]; exact hj)
 unfold opK
 by_cases c : opOf l < (k : Int)
 · rw [if_pos c, if_pos (by omega)]
 · rw [if_neg c, if_neg (by omega)]
def shM (w : World) (q : Nat) (s : ByteArray) : Nat := (s.size - rdPos w q) + (match w.cell? ⟨q, 2, none⟩ with
 | some (.bool true) => 0
 | _ => 1)
theorem shM_of {w : World} {q : Nat} {s : ByteArray} {l : List UInt8} {bad : Bool} (h : RdTo w q s l bad) : shM w q s = l.length + (if bad then 0 else 1) := by
 obtain ⟨a, h1, h2, h3⟩ := h; unfold shM; rw [rdPos_of h3, (rd_cells h3).2.2, h2, List.length_drop, bl_size]
 cases bad <;> rfl
theorem takeR_len (l : List UInt8) : (takeR [32] l).2.length ≤ l.length ∧ ((takeR [32] l).1 = false → (takeR [32] l).2.length + 1 ≤ l.length) := by
 unfold takeR; split
 ·
  next h =>
  rw [List.isPrefixOf_iff_prefix] at h; have := h.length_le; simp only [List.length_singleton] at this
  refine ⟨?_, fun _ => ?_⟩ <;> simp only [List.length_drop, List.length_singleton] <;> omega
 · exact ⟨Nat.le_refl _, fun e => by cases e⟩
theorem numR_len (k n : Nat) (l : List UInt8) : (numR k n l).2.2.length ≤ l.length := by
 induction l generalizing k n with
 | nil => exact Nat.le_refl _
 | cons b l ih =>
  simp only [numR]; split
  ·
   have := ih (k + 1) (10 * n + (b.toNat - 48)); simp only [List.length_cons]; omega
  · exact Nat.le_refl _
theorem cell_other' {w : World} {b p o i : Nat} {u : Value} (h : b ≠ p) : (w.setCell ⟨p, i, none⟩ u).cell? ⟨b, o, none⟩ = w.cell? ⟨b, o, none⟩ := World.cell?_of_block (Deep.blk_setCell_other _ _ _ _ h)
def Rdn (w : World) (s : ByteArray) (wc : World) : Prop := ∃ l bad E ad c, SH w wc s l bad E ad c ∧ bad = (readS (bl s)).1 ∧ (bad = false → E = (readS (bl s)).2) ∧ (bad = false → E.holder.size ≤ 1048576 ∧ E.text.size ≤ 1048576 ∧ E.secs.length ≤ 1048576)
theorem wordR_len (l : List UInt8) : (wordR l).1.length ≤ l.length ∧ (wordR l).2.length ≤ l.length := by
 have := congrArg List.length (List.takeWhile_append_dropWhile (p := low) (l := l)); rw [List.length_append] at this; unfold wordR
 constructor <;> simp only <;> omega
theorem readS_nil : (readS []).1 = true := by decide
set_option maxRecDepth 20000 in
set_option maxHeartbeats 16000000 in
theorem specHear_any (s : ByteArray) (w : World) (hs : s.size ≤ 1048576) :
  Calls Tryz.prog 17 #[.string s] w fun e w' => RetH e w' w.heap.size (bl s) ∧ Below w.heap.size w w' := by
 obtain ⟨i0, hi, hz0, hz1, hz2⟩ := info_parts Tryz.infoInt; obtain ⟨W0, hW0⟩ : ∃ W, W = ((w.alloc (.cells #[.bool false, .int .i64 0, .int .i64 0, .string ⟨#[]⟩, .int .i64 0, .slice none 0 0, .string ⟨#[]⟩] 46)).alloc (.cells #[.string s, .int .i64 0, .bool false] 88)).alloc (.cells #[.int .i64 0, .int .i64 0, .string ⟨#[]⟩, .int .i64 0, .slice none 0 0, .string ⟨#[]⟩] 32) := ⟨_, rfl⟩
 have S0 : Hid (SH w W0 s (bl s) false ⟨0, 0, ⟨#[]⟩, 0, [], ⟨#[]⟩⟩ none 0) := by
  rw [hW0]; have s2 : ((w.alloc (.cells #[.bool false, .int .i64 0, .int .i64 0, .string ⟨#[]⟩, .int .i64 0, .slice none 0 0, .string ⟨#[]⟩] 46)).alloc (.cells #[.string s, .int .i64 0, .bool false] 88)).heap.size = w.heap.size + 2 := by simp
  have x1 := Deep.blk_alloc_new (w.alloc (.cells #[.bool false, .int .i64 0, .int .i64 0, .string ⟨#[]⟩, .int .i64 0, .slice none 0 0, .string ⟨#[]⟩] 46)) (.cells #[.string s, .int .i64 0, .bool false] 88); have x2 := Deep.blk_alloc_new ((w.alloc (.cells #[.bool false, .int .i64 0, .int .i64 0, .string ⟨#[]⟩, .int .i64 0, .slice none 0 0, .string ⟨#[]⟩] 46)).alloc (.cells #[.string s, .int .i64 0, .bool false] 88)) (.cells #[.int .i64 0, .int .i64 0, .string ⟨#[]⟩, .int .i64 0, .slice none 0 0, .string ⟨#[]⟩] 32); rw [s2] at x2; have s1 : (w.alloc (.cells #[.bool false, .int .i64 0, .int .i64 0, .string ⟨#[]⟩, .int .i64 0, .slice none 0 0, .string ⟨#[]⟩] 46)).heap.size = w.heap.size + 1 := by simp
  rw [s1] at x1; refine ⟨⟨0, Nat.zero_le _, rfl, (Deep.blk_alloc_lt _ _ _ (by rw [s2]; omega)).trans x1⟩, ⟨x2, World.ownsRow_nil _ _ _ _, fun g e => by cases e⟩, (Deep.blk_alloc_lt _ _ _ (by rw [s2]; omega)).trans ((Deep.blk_alloc_lt _ _ _ (by rw [s1]; omega)).trans (Deep.blk_alloc_new _ _)), ((below2 w _ _).trans ((Below.refl _ _).alloc (by rw [s2]; omega) _))⟩
 have hW0' : ((w.alloc (.cells #[.bool false, .int .i64 0, .int .i64 0, .string ⟨#[]⟩, .int .i64 0, .slice none 0 0, .string ⟨#[]⟩] 46)).alloc (.cells #[.string s, .int .i64 0, .bool false] 88)).alloc (.cells #[.int .i64 0, .int .i64 0, .string ⟨#[]⟩, .int .i64 0, .slice none 0 0, .string ⟨#[]⟩] 32) = W0 := hW0.symm; clear hW0; obtain ⟨L, hL⟩ : ∃ L, wordR (bl s) = L := ⟨_, rfl⟩; have HL : Hid (wordR (bl s) = L) := hL; clear hL
 go_enter Tryz.func17, Tryz.ntmps17
 go_wp2_with fail
 try rw [hW0']
 clear hW0'; refine (S0.out.word hs).mono ?_; rintro e w1 ⟨rfl, hS1⟩; rw [HL.out] at hS1; rw [HL.out]; have S1 : Hid (SH w w1 s L.2 false ⟨0, 0, ⟨#[]⟩, 0, [], ⟨#[]⟩⟩ none 0) := hS1; clear hS1 S0
 go_wp2_with fail
 refine (l3words_all w1).mono ?_; rintro e w2 ⟨b, rfl, hb0, hwd, hb2⟩; have S2 : Hid (SH w w2 s L.2 false ⟨0, 0, ⟨#[]⟩, 0, [], ⟨#[]⟩⟩ none 0 ∧ (∀ k : Nat, k < 10 → w2.cell? ⟨b, k, none⟩ = some (.string (wd k))) ∧ w.heap.size + 2 < b) := ⟨S1.out.below hb2, hwd, by have := S1.out.sz; omega⟩; clear hb2 hwd hb0 S1; go_wp2
 go_loopw [16] (fun i wr => ∃ k : Nat, k ≤ 10 ∧ i = .int .i64 (k : Int) ∧ SH w wr s L.2 false ⟨opK L.1 k, 0, ⟨#[]⟩, 0, [], ⟨#[]⟩⟩ none 0 ∧ (∀ k : Nat, k < 10 → wr.cell? ⟨b, k, none⟩ = some (.string (wd k)))) (fun i _ => 10 - (intOf i).toNat)
 case atStart => exact ⟨0, by omega, rfl, by rw [opK_zero]; exact S2.out.1, S2.out.2.1⟩
 case round =>
  obtain ⟨k, hk, rfl, hSk, hwk⟩ := hrel; have SK : Hid (SH w wr s L.2 false ⟨opK L.1 k, 0, ⟨#[]⟩, 0, [], ⟨#[]⟩⟩ none 0 ∧ (∀ k : Nat, k < 10 → wr.cell? ⟨b, k, none⟩ = some (.string (wd k)))) := ⟨hSk, hwk⟩; have hbz := S2.out.2.2; clear hSk; obtain ⟨⟨c0, c1, c2, c3, c4, c5⟩, f0, f1, f2, f3, f4, f5⟩ := SK.out.1.ex.facts; have z1 := SK.out.1.sz
  by_cases hlt : k < 10
  ·
   have tl : decide ((k : Int) < 10) = true := decide_eq_true (by omega); have ck := hwk k hlt; clear hwk
   have tt : ((wd k).toList == (mkB L.1).toList) = decide (L.1 = bl (wd k)) := by
    rw [ByteArray.toList_eq, ByteArray.toList_eq]; have e1 : (mkB L.1).data.toList = L.1 := bl_mkB _; rw [e1]
    by_cases e : L.1 = bl (wd k)
    ·
     rw [decide_eq_true e, e]; exact beq_self_eq_true _
    ·
     rw [decide_eq_false e]; exact beq_eq_false_iff_ne.2 (fun q => e q.symm)
   by_cases he : L.1 = bl (wd k)
   ·
    rw [decide_eq_true he] at tt
    by_cases hk0 : 0 < k
    ·
     have tk : decide ((0 : Int) < (k : Int)) = true := decide_eq_true (by omega); have HO : Hid (opK L.1 (k + 1) = (k : Int)) := opK_hit hk0 hlt he; clear he; go_wp2; go_roundw
     case rel =>
      refine ⟨k + 1, by omega, by go_num, ?_, fun j hj => ?_⟩
      ·
       rw [HO.out]; exact SK.out.1.setOp_ (k : Int)
      · exact (cell_other' (by omega)).trans (SK.out.2 j hj)
     case measure => simp [intOf]; omega
    ·
     have tk : decide ((0 : Int) < (k : Int)) = false := decide_eq_false (by omega); have HO : Hid (opK L.1 (k + 1) = opK L.1 k) := opK_miss (Or.inl (by omega)); clear he; go_wp2; go_roundw
     case rel =>
      refine ⟨k + 1, by omega, by go_num, ?_, SK.out.2⟩; rw [HO.out]; exact SK.out.1
     case measure => simp [intOf]; omega
   ·
    rw [decide_eq_false he] at tt; have HO : Hid (opK L.1 (k + 1) = opK L.1 k) := opK_miss (Or.inr ⟨hlt, he⟩); clear he; go_wp2; go_roundw
    case rel =>
     refine ⟨k + 1, by omega, by go_num, ?_, SK.out.2⟩; rw [HO.out]; exact SK.out.1
    case measure => simp [intOf]; omega
  ·
   obtain rfl : k = 10 := by omega
   clear hwk
   have S3 : Hid (SH w wr s L.2 false ⟨opOf L.1, 0, ⟨#[]⟩, 0, [], ⟨#[]⟩⟩ none 0) := by
    have := SK.out.1; rw [opK_ten] at this; exact this
   clear SK S2 c0 c1 c2 c3 c4 c5 f0 f1 f2 f3 f4 f5 z1 hbz hk hlt
   by_cases ho : opOf L.1 = 0
   ·
    have tz0 : (opOf L.1 == 0) = true := by rw [ho]; rfl
    have HNO : Hid (∀ E, LineOk E → lineT E ≠ bl s) := fun E' h' e' => by
     have h1 := readS_line h'; have h2 := h'.in19; rw [e'] at h1
     have h3 : (readS (bl s)).2.op = opOf L.1 := by
      unfold readS; rw [HL.out]; simp only [ho]; simp
     rw [h1] at h3; simp only at h3; unfold In at h2; omega
    have xa := S3.out.ans; have hc : ∀ i u, (#[Value.bool false, Value.int .i64 0, Value.int .i64 0, Value.string ⟨#[]⟩, Value.int .i64 0, Value.slice none 0 0, Value.string ⟨#[]⟩] : Array Value)[i]? = some u → wr.cell? ⟨w.heap.size, i, none⟩ = some u := fun i u h => cell_of_box xa h; have e0 := hc 0 _ rfl; have e1 := hc 1 _ rfl; have e2 := hc 2 _ rfl; have e3 := hc 3 _ rfl; have e4 := hc 4 _ rfl; have e5 := hc 5 _ rfl; have e6 := hc 6 _ rfl; have g0 : wr.frozen? ⟨w.heap.size, 0, none⟩ = false := frozen_of_box xa; have g1 : wr.frozen? ⟨w.heap.size, 1, none⟩ = false := frozen_of_box xa; have g2 : wr.frozen? ⟨w.heap.size, 2, none⟩ = false := frozen_of_box xa; have g3 : wr.frozen? ⟨w.heap.size, 3, none⟩ = false := frozen_of_box xa; have g4 : wr.frozen? ⟨w.heap.size, 4, none⟩ = false := frozen_of_box xa; have g5 : wr.frozen? ⟨w.heap.size, 5, none⟩ = false := frozen_of_box xa; have g6 : wr.frozen? ⟨w.heap.size, 6, none⟩ = false := frozen_of_box xa; obtain ⟨Z, hZ⟩ : ∃ Z, Z = put7 wr w.heap.size (.bool false) (.int .i64 0) (.int .i64 0) (.string ⟨#[]⟩) (.int .i64 0) (.slice none 0 0) (.string ⟨#[]⟩) := ⟨_, rfl⟩; have hZ' : (((((((wr.setCell ⟨w.heap.size, 0, none⟩ (.bool false)).setCell ⟨w.heap.size, 1, none⟩ (.int .i64 0)).setCell ⟨w.heap.size, 2, none⟩ (.int .i64 0)).setCell ⟨w.heap.size, 3, none⟩ (.string ⟨#[]⟩)).setCell ⟨w.heap.size, 4, none⟩ (.int .i64 0)).setCell ⟨w.heap.size, 5, none⟩ (.slice none 0 0)).setCell ⟨w.heap.size, 6, none⟩ (.string ⟨#[]⟩)) = Z := hZ.symm
    have HZ : Hid (Z.heap[w.heap.size]? = some (.cells #[.bool false, .int .i64 0, .int .i64 0, .string ⟨#[]⟩, .int .i64 0, .slice none 0 0, .string ⟨#[]⟩] 46 (0, 0)) ∧ Fr (fun x => x = w.heap.size) wr Z) := by
     rw [hZ]; exact ⟨put7_box xa _ _ _ _ _ _ _, put7_fr _ _ _ _ _ _ _ _ _⟩
    clear hZ hc xa; obtain ⟨ax, ⟨hax, hdx⟩, r1, r2⟩ := S3.out.facts; obtain ⟨⟨c0, c1, c2, c3, c4, c5⟩, f0, f1, f2, f3, f4, f5⟩ := S3.out.ex.facts; have z1 := S3.out.sz; clear ho; go_wp2
    try rw [hZ']
    clear hZ' e0 e1 e2 e3 e4 e5 e6 g0 g1 g2 g3 g4 g5 g6; have hc : ∀ i u, (#[Value.bool false, .int .i64 0, .int .i64 0, .string ⟨#[]⟩, .int .i64 0, .slice none 0 0, .string ⟨#[]⟩] : Array Value)[i]? = some u → Z.cell? ⟨w.heap.size, i, none⟩ = some u := fun i u h => cell_of_box HZ.out.1 h; have e0 := hc 0 _ rfl; have e1 := hc 1 _ rfl; have e2 := hc 2 _ rfl; have e3 := hc 3 _ rfl; have e4 := hc 4 _ rfl; have e5 := hc 5 _ rfl; have e6 := hc 6 _ rfl; refine bodyPost_ret (v := .agg #[.bool false, .int .i64 0, .int .i64 0, .string ⟨#[]⟩, .int .i64 0, .slice none 0 0, .string ⟨#[]⟩]) (by simp [results, Tryz.results17, go_sem, e0, e1, e2, e3, e4, e5, e6]) rfl ?_; exact ⟨Or.inr ⟨HNO.out, rfl⟩, S3.out.bel.trans (HZ.out.2.below (B := w.heap.size) (by have := S3.out.sz; omega) (fun i e => by omega))⟩
   have tz0 : (opOf L.1 == 0) = false := beq_eq_false_iff_ne.2 ho; obtain ⟨ax, ⟨hax, hdx⟩, r1, r2⟩ := S3.out.facts; obtain ⟨⟨c0, c1, c2, c3, c4, c5⟩, f0, f1, f2, f3, f4, f5⟩ := S3.out.ex.facts; have z1 := S3.out.sz; have HT : Hid (Calls Tryz.prog 46 #[.pointer (some ⟨w.heap.size + 1, 0, none⟩), .string ⟨#[32]⟩] wr fun e w' => e = .returned (.tuple #[]) ∧ SH w w' s (takeR [32] L.2).2 (false || (takeR [32] L.2).1) ⟨opOf L.1, 0, ⟨#[]⟩, 0, [], ⟨#[]⟩⟩ none 0) := S3.out.take hs ⟨#[32]⟩ (by decide)
   go_wp2_with fail
   refine HT.out.mono ?_; rintro e w4 ⟨rfl, hS4⟩; obtain ⟨T, hT⟩ : ∃ T, takeR [32] L.2 = T := ⟨_, rfl⟩; rw [hT, Bool.false_or] at hS4; have HTT : Hid (takeR [32] L.2 = T) := hT; have S4 : Hid (SH w w4 s T.2 T.1 ⟨opOf L.1, 0, ⟨#[]⟩, 0, [], ⟨#[]⟩⟩ none 0) := hS4; clear hS4 HT hT S3 tz0; clear c0 c1 c2 c3 c4 c5 f0 f1 f2 f3 f4 f5 z1 r1 r2 hax hdx; obtain ⟨ax, ⟨hax, hdx⟩, r1, r2⟩ := S4.out.facts; obtain ⟨⟨c0, c1, c2, c3, c4, c5⟩, f0, f1, f2, f3, f4, f5⟩ := S4.out.ex.facts; have z1 := S4.out.sz
   go_upto_if 39 with (fail)
   go_cut [] (fun wc => Rdn w s wc)
   case first =>
    by_cases h1 : opOf L.1 = 1
    ·
     have t1 : (opOf L.1 == 1) = true := by rw [h1]; rfl
     have HRD : Hid (readS (bl s) = (((T.1 || (takeR [32] (wordR T.2).2).1) || (if (T.1 || (takeR [32] (wordR T.2).2).1) then (true, []) else secsR (wordR (takeR [32] (wordR T.2).2).2).2.length (wordR (takeR [32] (wordR T.2).2).2).2).1), ⟨1, 0, mkB (wordR T.2).1, kindOfL (wordR (takeR [32] (wordR T.2).2).2).1, (if (T.1 || (takeR [32] (wordR T.2).2).1) then (true, []) else secsR (wordR (takeR [32] (wordR T.2).2).2).2.length (wordR (takeR [32] (wordR T.2).2).2).2).2, ⟨#[]⟩⟩)) := by
      show readS (bl s) = _
      unfold readS; rw [HL.out]; simp only [HTT.out, if_pos h1]; rfl
     have HC : Hid (Calls Tryz.prog 45 #[.pointer (some ⟨w.heap.size + 1, 0, none⟩)] _ fun e w' => e = .returned (.string (mkB (wordR T.2).1)) ∧ SH w w' s (wordR T.2).2 T.1 ⟨opOf L.1, 0, ⟨#[]⟩, 0, [], ⟨#[]⟩⟩ none 0) := S4.out.word hs
     go_wp2_with fail
     refine HC.out.mono ?_; rintro e w5 ⟨rfl, hS⟩; have S5 : Hid (SH w w5 s (wordR T.2).2 T.1 ⟨opOf L.1, 0, ⟨#[]⟩, 0, [], ⟨#[]⟩⟩ none 0) := hS; clear hS HC; obtain ⟨V, hV⟩ : ∃ x, wordR T.2 = x := ⟨_, rfl⟩; rw [hV] at S5 HRD ⊢; have HV : Hid (wordR T.2 = V) := hV; clear hV; clear c0 c1 c2 c3 c4 c5 f0 f1 f2 f3 f4 f5 z1 r1 r2 hax hdx; obtain ⟨ax, ⟨hax, hdx⟩, r1, r2⟩ := S5.out.facts; obtain ⟨⟨c0, c1, c2, c3, c4, c5⟩, f0, f1, f2, f3, f4, f5⟩ := S5.out.ex.facts; have z1 := S5.out.sz; have S6 : Hid (SH w (w5.setCell ⟨w.heap.size + 2, 2, none⟩ (.string (mkB V.1))) s V.2 T.1 ⟨opOf L.1, 0, mkB V.1, 0, [], ⟨#[]⟩⟩ none 0) := S5.out.setHolder (mkB V.1); obtain ⟨Y6, hY6⟩ : ∃ Y, Y = w5.setCell ⟨w.heap.size + 2, 2, none⟩ (.string (mkB V.1)) := ⟨_, rfl⟩; have hY' : w5.setCell ⟨w.heap.size + 2, 2, none⟩ (.string (mkB V.1)) = Y6 := hY6.symm; rw [← hY6] at S6; clear hY6; obtain ⟨⟨k60, k61, k62, k63, k64, k65⟩, l60, l61, l62, l63, l64, l65⟩ := S6.out.ex.facts; have zz6 := S6.out.sz; have HC : Hid (Calls Tryz.prog 46 #[.pointer (some ⟨w.heap.size + 1, 0, none⟩), .string ⟨#[32]⟩] _ fun e w' => e = .returned (.tuple #[]) ∧ SH w w' s (takeR [32] V.2).2 (T.1 || (takeR [32] V.2).1) ⟨opOf L.1, 0, mkB V.1, 0, [], ⟨#[]⟩⟩ none 0) := S6.out.take hs ⟨#[32]⟩ (by decide)
     go_wp2_with fail
     try rw [hY']
     clear hY'; refine HC.out.mono ?_; rintro e w7 ⟨rfl, hS⟩; have S7 : Hid (SH w w7 s (takeR [32] V.2).2 (T.1 || (takeR [32] V.2).1) ⟨opOf L.1, 0, mkB V.1, 0, [], ⟨#[]⟩⟩ none 0) := hS; clear hS HC; obtain ⟨U, hU⟩ : ∃ x, takeR [32] V.2 = x := ⟨_, rfl⟩; rw [hU] at S7 HRD; have HU : Hid (takeR [32] V.2 = U) := hU; clear hU; have HC : Hid (Calls Tryz.prog 45 #[.pointer (some ⟨w.heap.size + 1, 0, none⟩)] _ fun e w' => e = .returned (.string (mkB (wordR U.2).1)) ∧ SH w w' s (wordR U.2).2 (T.1 || U.1) ⟨opOf L.1, 0, mkB V.1, 0, [], ⟨#[]⟩⟩ none 0) := S7.out.word hs
     go_wp2_with fail
     refine HC.out.mono ?_; rintro e w8 ⟨rfl, hS⟩; have S8 : Hid (SH w w8 s (wordR U.2).2 (T.1 || U.1) ⟨opOf L.1, 0, mkB V.1, 0, [], ⟨#[]⟩⟩ none 0) := hS; clear hS HC; obtain ⟨K, hK⟩ : ∃ x, wordR U.2 = x := ⟨_, rfl⟩; rw [hK] at S8 HRD ⊢; have HK : Hid (wordR U.2 = K) := hK; clear hK; have hV1 : V.1.length ≤ s.size := by have := (wordR_len T.2).1; rw [HV.out] at this; have := S4.out.len; omega
     have hK2 : K.2.length ≤ s.size := S8.out.len; obtain ⟨B0, hB0⟩ : ∃ b, (T.1 || U.1) = b := ⟨_, rfl⟩; rw [hB0] at S8 HRD; clear hB0; clear c0 c1 c2 c3 c4 c5 f0 f1 f2 f3 f4 f5 z1 r1 r2 hax hdx; obtain ⟨ax, ⟨hax, hdx⟩, r1, r2⟩ := S8.out.facts; obtain ⟨⟨c0, c1, c2, c3, c4, c5⟩, f0, f1, f2, f3, f4, f5⟩ := S8.out.ex.facts; have z1 := S8.out.sz
     have tl : Hid (∀ k : List UInt8, ((mkB K.1).toList == k) = decide (K.1 = k)) := fun k => by
      rw [ByteArray.toList_eq]; have : (mkB K.1).data.toList = K.1 := bl_mkB K.1; rw [this]
      by_cases e : K.1 = k
      ·
       rw [decide_eq_true e, e]; exact beq_self_eq_true _
      ·
       rw [decide_eq_false e]; exact beq_eq_false_iff_ne.2 e
     go_upto_if 48 with (fail)
     go_cut [] (fun wc => SH w wc s K.2 B0 ⟨opOf L.1, 0, mkB V.1, kindOfL K.1, [], ⟨#[]⟩⟩ none 0)
     case first =>
      by_cases k1 : K.1 = [112, 97, 115, 115]
      ·
       have tk : ((mkB K.1).toList == [112, 97, 115, 115]) = true := (tl.out _).trans (decide_eq_true k1); have ek : Hid (kindOfL K.1 = 1) := by show kindOfL K.1 = 1; unfold kindOfL; rw [if_pos k1]
       clear tl k1; rw [tk]; go_wp2
       go_meet
       case rel => rw [ek.out]; exact S8.out.setKind 1
      ·
       have tk : ((mkB K.1).toList == [112, 97, 115, 115]) = false := (tl.out _).trans (decide_eq_false k1)
       by_cases k2 : K.1 = [119, 111, 114, 107]
       ·
        have tk2 : ((mkB K.1).toList == [119, 111, 114, 107]) = true := (tl.out _).trans (decide_eq_true k2); have ek : Hid (kindOfL K.1 = 2) := by show kindOfL K.1 = 2; unfold kindOfL; rw [if_neg k1, if_pos k2]
        clear tl k1 k2; rw [tk]; go_wp2
        go_meet
        case rel => rw [ek.out]; exact S8.out.setKind 2
       ·
        have tk2 : ((mkB K.1).toList == [119, 111, 114, 107]) = false := (tl.out _).trans (decide_eq_false k2); have ek : Hid (kindOfL K.1 = 0) := by show kindOfL K.1 = 0; unfold kindOfL; rw [if_neg k1, if_neg k2]
        clear tl k1 k2; rw [tk]; go_wp2
        go_meet
        case rel => rw [ek.out]; exact S8.out
     case rest =>
      have S9 : Hid (SH w wc s K.2 B0 ⟨opOf L.1, 0, mkB V.1, kindOfL K.1, [], ⟨#[]⟩⟩ none 0) := hcut; clear hcut S8 tl; clear c0 c1 c2 c3 c4 c5 f0 f1 f2 f3 f4 f5 z1 r1 r2 hax hdx; obtain ⟨kd, hkd⟩ : ∃ k, kindOfL K.1 = k := ⟨_, rfl⟩; rw [hkd] at S9 HRD; clear hkd; obtain ⟨w9, hw9⟩ : ∃ x, x = wc := ⟨_, rfl⟩; rw [← hw9] at S9 ⊢; clear hw9; go_wp2
      go_loopw [] (fun wr => ∃ (f : Nat) (l : List UInt8) (L2 : List Int) (bad : Bool) (ad : Option Addr) (c : Nat), (bad = false → l.length ≤ f ∧ L2.length + l.length ≤ s.size ∧ B0 = false ∧ secsR K.2.length K.2 = ((secsR f l).1, L2 ++ (secsR f l).2)) ∧ L2.length ≤ s.size + 1 ∧ (bad = true → B0 = true ∨ (secsR K.2.length K.2).1 = true) ∧ SH w wr s l bad ⟨opOf L.1, 0, mkB V.1, kd, L2, ⟨#[]⟩⟩ ad c) (fun wr => shM wr (w.heap.size + 1) s)
      case atStart => exact ⟨K.2.length, K.2, [], B0, none, 0, fun e => ⟨Nat.le_refl _, by simpa using hK2, e, by simp⟩, Nat.zero_le _, fun e => Or.inl e, S9.out⟩
      case round =>
       obtain ⟨f, l, L2, bad, ad, c, hb0, hb1, hb2, hSr⟩ := hrel; have SR : Hid (SH w wr s l bad ⟨opOf L.1, 0, mkB V.1, kd, L2, ⟨#[]⟩⟩ ad c) := hSr; clear hSr S9; obtain ⟨ax, ⟨hax, hdx⟩, r1, r2⟩ := SR.out.facts; obtain ⟨⟨c0, c1, c2, c3, c4, c5⟩, f0, f1, f2, f3, f4, f5⟩ := SR.out.ex.facts; have z1 := SR.out.sz; cases bad with
       | true =>
        have HX : Hid ((readS (bl s)).1 = true) := by
         show (readS (bl s)).1 = true
         rw [HRD.out]; rcases hb2 rfl with e | e
         · simp [e]
         · cases B0 <;> simp [e]
        clear hb0 hb2; go_wp2
        go_meet
        case rel => exact ⟨l, true, _, ad, c, SR.out, HX.out.symm, fun e => absurd e (by decide), fun e => absurd e (by decide)⟩
       | false =>
        obtain ⟨hf, hlen, hB, hsec⟩ := hb0 rfl; clear hb0 hb2
        by_cases hl : l = []
        ·
         have ha : ax = s.size := (drop_nil_iff hax).1 (by rw [← hdx]; exact hl); have ta : decide ((ax : Int) < (s.size : Int)) = false := decide_eq_false (by omega)
         have HX : Hid (readS (bl s) = (false, ⟨1, 0, mkB V.1, kd, L2, ⟨#[]⟩⟩)) := by
          show readS (bl s) = _
          have e : secsR f l = (false, []) := by
           subst hl; cases f with
           | zero => rfl
           | succ f => simp [secsR]
          rw [HRD.out, hB, hsec, e]; simp
         clear hsec; go_wp2
         go_meet
         case rel => exact ⟨l, false, _, ad, c, SR.out, by rw [HX.out], fun _ => by rw [HX.out, h1], fun _ => ⟨by rw [mkB_size]; omega, Nat.zero_le _, by show L2.length ≤ _; omega⟩⟩
        ·
         have ha : ax < s.size := by
          rcases Nat.lt_or_ge ax s.size with h | h
          · exact h
          · exact absurd (hdx.trans ((drop_nil_iff hax).2 (by omega))) hl
         have ta : decide ((ax : Int) < (s.size : Int)) = true := decide_eq_true (by omega); have HSec : Hid (secsR K.2.length K.2 = ((secsR f l).1, L2 ++ (secsR f l).2)) := hsec; have hlp : 0 < l.length := List.length_pos_iff.2 hl; obtain ⟨f', rfl⟩ : ∃ k, f = k + 1 := ⟨f - 1, by omega⟩; clear hsec; have HC : Hid (Calls Tryz.prog 46 #[.pointer (some ⟨w.heap.size + 1, 0, none⟩), .string ⟨#[32]⟩] _ fun e w' => e = .returned (.tuple #[]) ∧ SH w w' s (takeR [32] l).2 (false || (takeR [32] l).1) ⟨opOf L.1, 0, mkB V.1, kd, L2, ⟨#[]⟩⟩ ad c) := SR.out.take hs ⟨#[32]⟩ (by decide)
         go_wp2_with fail
         refine HC.out.mono ?_; rintro e w11 ⟨rfl, hS⟩; obtain ⟨A, hA⟩ : ∃ x, takeR [32] l = x := ⟨_, rfl⟩; rw [hA, Bool.false_or] at hS; have SA : Hid (SH w w11 s A.2 A.1 ⟨opOf L.1, 0, mkB V.1, kd, L2, ⟨#[]⟩⟩ ad c) := hS; clear hS HC c0 c1 c2 c3 c4 c5 f0 f1 f2 f3 f4 f5 z1 r1 r2; obtain ⟨M, hM⟩ : ∃ x, numR 0 0 A.2 = x := ⟨_, rfl⟩; have hA1 := takeR_len l; rw [hA] at hA1; have hM1 := numR_len 0 0 A.2; rw [hM] at hM1
         have HNX : Hid (∀ W, SH w W s A.2 A.1 ⟨opOf L.1, 0, mkB V.1, kd, L2, ⟨#[]⟩⟩ ad c → Calls Tryz.prog 47 #[.pointer (some ⟨w.heap.size + 1, 0, none⟩)] W fun e w' => e = .returned (.int .i64 (M.2.1 : Int)) ∧ SH w w' s M.2.2 (A.1 || decide (M.1 = 0)) ⟨opOf L.1, 0, mkB V.1, kd, L2, ⟨#[]⟩⟩ ad c) := fun W hW => by
          have := hW.num hs; rw [hM] at this; exact this
         have HGo : Hid (((A.1 || decide (M.1 = 0)) = true → (secsR K.2.length K.2).1 = true) ∧ ((A.1 || decide (M.1 = 0)) = false → secsR K.2.length K.2 = ((secsR f' M.2.2).1, (L2 ++ [(M.2.1 : Int)]) ++ (secsR f' M.2.2).2))) := by
          have e : secsR (f' + 1) l = if A.1 = true ∨ M.1 = 0 then (true, [(M.2.1 : Int)]) else ((secsR f' M.2.2).1, (M.2.1 : Int) :: (secsR f' M.2.2).2) := by
           rw [secsR, if_neg hl, hA]; simp only; rw [hM]
          refine ⟨fun h => ?_, fun h => ?_⟩
          · rw [HSec.out, e, if_pos (by simpa using h)]
          ·
           rw [HSec.out, e, if_neg (by simpa using h)]; simp
         obtain ⟨B2, hB2⟩ : ∃ b, (A.1 || decide (M.1 = 0)) = b := ⟨_, rfl⟩; have hA0 : B2 = false → A.1 = false := fun e => by rw [e] at hB2; simp at hB2; exact hB2.1
         rw [hB2] at HNX HGo; clear hB2 hA hM HSec; obtain ⟨mv, hmv⟩ : ∃ x, (M.2.1 : Int) = x := ⟨_, rfl⟩; rw [hmv] at HNX HGo; clear hmv; obtain ⟨⟨c0, c1, c2, c3, c4, c5⟩, f0, f1, f2, f3, f4, f5⟩ := SA.out.ex.facts; have z1 := SA.out.sz; go_wp2; refine wp_region_held_drew (S := fun _ => True) (by kernel_rfl) trivial (fun hS0 => ?_); refine tk 0 rfl ?_; refine tk 2 rfl ?_; clear c0 c1 c2 c3 c4 c5 f0 f1 f2 f3 f4 f5 z1; have OD : Hid (SH w w11.drew s A.2 A.1 ⟨opOf L.1, 0, mkB V.1, kd, L2, ⟨#[]⟩⟩ ad c) := SA.out.below (Below.refl _ _).drew; clear SA; obtain ⟨⟨c0, c1, c2, c3, c4, c5⟩, f0, f1, f2, f3, f4, f5⟩ := OD.out.ex.facts; have z1 := OD.out.sz; refine wpAnyH_ready (rs := [1, 3]) (by kernel_rfl) (by simp) ?_; refine AllReadyH.cons rfl (fun Kx hK => ?_) (AllReadyH.cons rfl (fun Kx hK => ?_) (AllReadyH.nil))
         ·
          go_simp; refine hK.out _ _ trivial (fun hS1 => ?_); clear hK Kx hS1; refine rdy1 3 rfl (fun Kx hK => ?_); go_simp; refine (HNX.out _ OD.out).mono ?_; rintro e w5 ⟨rfl, ho5⟩; have O5 : Hid (SH w w5 s M.2.2 B2 ⟨opOf L.1, 0, mkB V.1, kd, L2, ⟨#[]⟩⟩ ad c) := ho5; clear ho5 OD; clear c0 c1 c2 c3 c4 c5 f0 f1 f2 f3 f4 f5 z1; refine hK.out _ _ trivial (fun hS1 => ?_); clear hK Kx hS1; refine rdy1 4 rfl (fun Kx hK => ?_); go_simp; have OA : Hid (SH w (w5.alloc (.cells #[.int .i64 mv] 3)) s M.2.2 B2 ⟨opOf L.1, 0, mkB V.1, kd, L2, ⟨#[]⟩⟩ ad c) := O5.out.below (below1 _ _); have xa : (w5.alloc (.cells #[.int .i64 mv] 3)).heap[w5.heap.size]? = some (.cells #[.int .i64 mv] 3 (0, 0)) := Deep.blk_alloc_new _ _; obtain ⟨WA, hWA⟩ : ∃ x, x = (w5.alloc (.cells #[.int .i64 mv] 3)) := ⟨_, rfl⟩; rw [← hWA] at OA xa ⊢; clear hWA O5; refine hK.out _ _ trivial (fun hS1 => ?_); clear hK Kx hS1
          have n4 : ∀ j u', [Value.int .i64 mv][j]? = some u' → WA.cell? ((⟨w5.heap.size, 0, none⟩ : Addr).add j) = some u' := by
           intro j u' hu; rw [add0]; refine cell_of_box xa ?_; rw [← Array.getElem?_toList]; exact hu
          have zA := OA.out.sz; refine rdy1 5 rfl (fun Kx hK => ?_); refine wp_append_row _ _ 30 rfl (w.heap.size + 3) 3 i0 _ 1 8 Tryz.underlying30 hi hz0 hz1 hz2 rfl (by decide) (.slice ad L2.length c) L2.length (L2.map (Value.int .i64)) rfl OA.out.ex.own ⟨w5.heap.size, 0, none⟩ 1 1 [.int .i64 mv] rfl rfl n4 ?_ (by unfold maxLen; omega) (by omega) (by omega) ?_
          ·
           intro x hx; simp only [List.mem_singleton] at hx; subst hx; rfl
          intro vU wU hownU hgU _ hbU; have hownL : wU.ownsRow (w.heap.size + 3) 3 1 vU (L2 ++ [mv]).length ((L2 ++ [mv]).map (Value.int .i64)) := by simpa using hownU
          obtain ⟨gU, aU, cU, rfl, -⟩ := ownL_of hownL; have OU : Hid (SH w (wU.setCell ⟨w.heap.size + 2, 4, none⟩ (.slice aU (L2 ++ [mv]).length cU)) s M.2.2 B2 ⟨opOf L.1, 0, mkB V.1, kd, L2 ++ [mv], ⟨#[]⟩⟩ aU cU) := OA.out.push (L2 ++ [mv]) aU cU hgU hownL hbU; have xU : wU.heap[w.heap.size + 2]? = some _ := (hgU.block _ (by omega) (fun e => OA.out.ex.ne _ e.symm rfl)).trans OA.out.ex.box; obtain ⟨-, -, -, -, o4, -⟩ := ev_cells xU; have u4 : wU.frozen? ⟨w.heap.size + 2, 4, none⟩ = false := frozen_of_box xU; have zU : w.heap.size + 2 < wU.heap.size := (Array.getElem?_eq_some_iff.1 xU).1; clear hownU hgU hbU hownL xU n4 OA xa zA; refine hK.out _ _ trivial (fun hS1 => ?_); clear hK Kx hS1; refine tk 6 rfl ?_; refine rdy1 7 rfl (fun Kx hK => ?_); go_simp; refine hK.out _ _ trivial (fun hS1 => ?_); clear hK Kx hS1; refine wpAnyH_done (by kernel_rfl) ?_ _; go_simp; have hle : (L2 ++ [mv]).length = L2.length + 1 := by simp
          obtain ⟨Y, hY⟩ : ∃ Y, Y = (wU.setCell ⟨w.heap.size + 2, 4, none⟩ (.slice aU (L2 ++ [mv]).length cU)) := ⟨_, rfl⟩; have OY : Hid (SH w Y s M.2.2 B2 ⟨opOf L.1, 0, mkB V.1, kd, L2 ++ [mv], ⟨#[]⟩⟩ aU cU) := hY ▸ OU.out; have hY' : Y = (wU.setCell ⟨w.heap.size + 2, 4, none⟩ (.slice aU (L2.length + 1) cU)) := by rw [hY, hle]
          clear OU hY
          try rw [← hY']
          clear hY' o4 u4 zU; go_wp2; go_roundw
          case rel =>
           refine ⟨f', M.2.2, L2 ++ [mv], B2, aU, cU, fun e => ⟨?_, ?_, hB, HGo.out.2 e⟩, by rw [hle]; omega, fun e => Or.inr (HGo.out.1 e), OY.out⟩
           · have := hA1.2 (hA0 e); omega
           · have := hA1.2 (hA0 e); rw [hle]; omega
          case measure =>
           rw [shM_of OY.out.rd, shM_of SR.out.rd]; cases B2 with
           | true =>
            have := hA1.1; simp; omega
           | false =>
            have := hA1.2 (hA0 rfl); simp; omega
         ·
          go_simp; refine (HNX.out _ OD.out).mono ?_; rintro e w5 ⟨rfl, ho5⟩; have O5 : Hid (SH w w5 s M.2.2 B2 ⟨opOf L.1, 0, mkB V.1, kd, L2, ⟨#[]⟩⟩ ad c) := ho5; clear ho5 OD; clear c0 c1 c2 c3 c4 c5 f0 f1 f2 f3 f4 f5 z1; refine hK.out _ _ trivial (fun hS1 => ?_); clear hK Kx hS1; obtain ⟨⟨c0, c1, c2, c3, c4, c5⟩, f0, f1, f2, f3, f4, f5⟩ := O5.out.ex.facts; have z1 := O5.out.sz; refine wpAnyH_ready (rs := [1, 4]) (by kernel_rfl) (by simp) ?_; refine AllReadyH.cons rfl (fun Kx hK => ?_) (AllReadyH.cons rfl (fun Kx hK => ?_) (AllReadyH.nil))
          ·
           go_simp; refine hK.out _ _ trivial (fun hS1 => ?_); clear hK Kx hS1; refine rdy1 4 rfl (fun Kx hK => ?_); go_simp; have OA : Hid (SH w (w5.alloc (.cells #[.int .i64 mv] 3)) s M.2.2 B2 ⟨opOf L.1, 0, mkB V.1, kd, L2, ⟨#[]⟩⟩ ad c) := O5.out.below (below1 _ _); have xa : (w5.alloc (.cells #[.int .i64 mv] 3)).heap[w5.heap.size]? = some (.cells #[.int .i64 mv] 3 (0, 0)) := Deep.blk_alloc_new _ _; obtain ⟨WA, hWA⟩ : ∃ x, x = (w5.alloc (.cells #[.int .i64 mv] 3)) := ⟨_, rfl⟩; rw [← hWA] at OA xa ⊢; clear hWA O5; clear c0 c1 c2 c3 c4 c5 f0 f1 f2 f3 f4 f5 z1; refine hK.out _ _ trivial (fun hS1 => ?_); clear hK Kx hS1
           have n4 : ∀ j u', [Value.int .i64 mv][j]? = some u' → WA.cell? ((⟨w5.heap.size, 0, none⟩ : Addr).add j) = some u' := by
            intro j u' hu; rw [add0]; refine cell_of_box xa ?_; rw [← Array.getElem?_toList]; exact hu
           have zA := OA.out.sz; refine rdy1 5 rfl (fun Kx hK => ?_); refine wp_append_row _ _ 30 rfl (w.heap.size + 3) 3 i0 _ 1 8 Tryz.underlying30 hi hz0 hz1 hz2 rfl (by decide) (.slice ad L2.length c) L2.length (L2.map (Value.int .i64)) rfl OA.out.ex.own ⟨w5.heap.size, 0, none⟩ 1 1 [.int .i64 mv] rfl rfl n4 ?_ (by unfold maxLen; omega) (by omega) (by omega) ?_
           ·
            intro x hx; simp only [List.mem_singleton] at hx; subst hx; rfl
           intro vU wU hownU hgU _ hbU; have hownL : wU.ownsRow (w.heap.size + 3) 3 1 vU (L2 ++ [mv]).length ((L2 ++ [mv]).map (Value.int .i64)) := by simpa using hownU
           obtain ⟨gU, aU, cU, rfl, -⟩ := ownL_of hownL; have OU : Hid (SH w (wU.setCell ⟨w.heap.size + 2, 4, none⟩ (.slice aU (L2 ++ [mv]).length cU)) s M.2.2 B2 ⟨opOf L.1, 0, mkB V.1, kd, L2 ++ [mv], ⟨#[]⟩⟩ aU cU) := OA.out.push (L2 ++ [mv]) aU cU hgU hownL hbU; have xU : wU.heap[w.heap.size + 2]? = some _ := (hgU.block _ (by omega) (fun e => OA.out.ex.ne _ e.symm rfl)).trans OA.out.ex.box; obtain ⟨-, -, -, -, o4, -⟩ := ev_cells xU; have u4 : wU.frozen? ⟨w.heap.size + 2, 4, none⟩ = false := frozen_of_box xU; have zU : w.heap.size + 2 < wU.heap.size := (Array.getElem?_eq_some_iff.1 xU).1; clear hownU hgU hbU hownL xU n4 OA xa zA; refine hK.out _ _ trivial (fun hS1 => ?_); clear hK Kx hS1; refine tk 6 rfl ?_; refine rdy1 7 rfl (fun Kx hK => ?_); go_simp; refine hK.out _ _ trivial (fun hS1 => ?_); clear hK Kx hS1; refine wpAnyH_done (by kernel_rfl) ?_ _; go_simp; have hle : (L2 ++ [mv]).length = L2.length + 1 := by simp
           obtain ⟨Y, hY⟩ : ∃ Y, Y = (wU.setCell ⟨w.heap.size + 2, 4, none⟩ (.slice aU (L2 ++ [mv]).length cU)) := ⟨_, rfl⟩; have OY : Hid (SH w Y s M.2.2 B2 ⟨opOf L.1, 0, mkB V.1, kd, L2 ++ [mv], ⟨#[]⟩⟩ aU cU) := hY ▸ OU.out; have hY' : Y = (wU.setCell ⟨w.heap.size + 2, 4, none⟩ (.slice aU (L2.length + 1) cU)) := by rw [hY, hle]
           clear OU hY
           try rw [← hY']
           clear hY' o4 u4 zU; go_wp2; go_roundw
           case rel =>
            refine ⟨f', M.2.2, L2 ++ [mv], B2, aU, cU, fun e => ⟨?_, ?_, hB, HGo.out.2 e⟩, by rw [hle]; omega, fun e => Or.inr (HGo.out.1 e), OY.out⟩
            · have := hA1.2 (hA0 e); omega
            · have := hA1.2 (hA0 e); rw [hle]; omega
           case measure =>
            rw [shM_of OY.out.rd, shM_of SR.out.rd]; cases B2 with
            | true =>
             have := hA1.1; simp; omega
            | false =>
             have := hA1.2 (hA0 rfl); simp; omega
          ·
           go_simp; have OA : Hid (SH w (w5.alloc (.cells #[.int .i64 mv] 3)) s M.2.2 B2 ⟨opOf L.1, 0, mkB V.1, kd, L2, ⟨#[]⟩⟩ ad c) := O5.out.below (below1 _ _); have xa : (w5.alloc (.cells #[.int .i64 mv] 3)).heap[w5.heap.size]? = some (.cells #[.int .i64 mv] 3 (0, 0)) := Deep.blk_alloc_new _ _; obtain ⟨WA, hWA⟩ : ∃ x, x = (w5.alloc (.cells #[.int .i64 mv] 3)) := ⟨_, rfl⟩; rw [← hWA] at OA xa ⊢; clear hWA O5; clear c0 c1 c2 c3 c4 c5 f0 f1 f2 f3 f4 f5 z1; refine hK.out _ _ trivial (fun hS1 => ?_); clear hK Kx hS1; obtain ⟨⟨c0, c1, c2, c3, c4, c5⟩, f0, f1, f2, f3, f4, f5⟩ := OA.out.ex.facts; have z1 := OA.out.sz; refine rdy1 1 rfl (fun Kx hK => ?_); go_simp; clear c0 c1 c2 c3 c4 c5 f0 f1 f2 f3 f4 f5 z1; refine hK.out _ _ trivial (fun hS1 => ?_); clear hK Kx hS1
           have n4 : ∀ j u', [Value.int .i64 mv][j]? = some u' → WA.cell? ((⟨w5.heap.size, 0, none⟩ : Addr).add j) = some u' := by
            intro j u' hu; rw [add0]; refine cell_of_box xa ?_; rw [← Array.getElem?_toList]; exact hu
           have zA := OA.out.sz; refine rdy1 5 rfl (fun Kx hK => ?_); refine wp_append_row _ _ 30 rfl (w.heap.size + 3) 3 i0 _ 1 8 Tryz.underlying30 hi hz0 hz1 hz2 rfl (by decide) (.slice ad L2.length c) L2.length (L2.map (Value.int .i64)) rfl OA.out.ex.own ⟨w5.heap.size, 0, none⟩ 1 1 [.int .i64 mv] rfl rfl n4 ?_ (by unfold maxLen; omega) (by omega) (by omega) ?_
           ·
            intro x hx; simp only [List.mem_singleton] at hx; subst hx; rfl
           intro vU wU hownU hgU _ hbU; have hownL : wU.ownsRow (w.heap.size + 3) 3 1 vU (L2 ++ [mv]).length ((L2 ++ [mv]).map (Value.int .i64)) := by simpa using hownU
           obtain ⟨gU, aU, cU, rfl, -⟩ := ownL_of hownL; have OU : Hid (SH w (wU.setCell ⟨w.heap.size + 2, 4, none⟩ (.slice aU (L2 ++ [mv]).length cU)) s M.2.2 B2 ⟨opOf L.1, 0, mkB V.1, kd, L2 ++ [mv], ⟨#[]⟩⟩ aU cU) := OA.out.push (L2 ++ [mv]) aU cU hgU hownL hbU; have xU : wU.heap[w.heap.size + 2]? = some _ := (hgU.block _ (by omega) (fun e => OA.out.ex.ne _ e.symm rfl)).trans OA.out.ex.box; obtain ⟨-, -, -, -, o4, -⟩ := ev_cells xU; have u4 : wU.frozen? ⟨w.heap.size + 2, 4, none⟩ = false := frozen_of_box xU; have zU : w.heap.size + 2 < wU.heap.size := (Array.getElem?_eq_some_iff.1 xU).1; clear hownU hgU hbU hownL xU n4 OA xa zA; refine hK.out _ _ trivial (fun hS1 => ?_); clear hK Kx hS1; refine tk 6 rfl ?_; refine rdy1 7 rfl (fun Kx hK => ?_); go_simp; refine hK.out _ _ trivial (fun hS1 => ?_); clear hK Kx hS1; refine wpAnyH_done (by kernel_rfl) ?_ _; go_simp; have hle : (L2 ++ [mv]).length = L2.length + 1 := by simp
           obtain ⟨Y, hY⟩ : ∃ Y, Y = (wU.setCell ⟨w.heap.size + 2, 4, none⟩ (.slice aU (L2 ++ [mv]).length cU)) := ⟨_, rfl⟩; have OY : Hid (SH w Y s M.2.2 B2 ⟨opOf L.1, 0, mkB V.1, kd, L2 ++ [mv], ⟨#[]⟩⟩ aU cU) := hY ▸ OU.out; have hY' : Y = (wU.setCell ⟨w.heap.size + 2, 4, none⟩ (.slice aU (L2.length + 1) cU)) := by rw [hY, hle]
           clear OU hY
           try rw [← hY']
           clear hY' o4 u4 zU; go_wp2; go_roundw
           case rel =>
            refine ⟨f', M.2.2, L2 ++ [mv], B2, aU, cU, fun e => ⟨?_, ?_, hB, HGo.out.2 e⟩, by rw [hle]; omega, fun e => Or.inr (HGo.out.1 e), OY.out⟩
            · have := hA1.2 (hA0 e); omega
            · have := hA1.2 (hA0 e); rw [hle]; omega
           case measure =>
            rw [shM_of OY.out.rd, shM_of SR.out.rd]; cases B2 with
            | true =>
             have := hA1.1; simp; omega
            | false =>
             have := hA1.2 (hA0 rfl); simp; omega
    ·
     have t1 : (opOf L.1 == 1) = false := beq_eq_false_iff_ne.2 h1; have HC : Hid (Calls Tryz.prog 47 #[.pointer (some ⟨w.heap.size + 1, 0, none⟩)] _ fun e w' => e = .returned (.int .i64 ((numR 0 0 T.2).2.1 : Int)) ∧ SH w w' s (numR 0 0 T.2).2.2 (T.1 || decide ((numR 0 0 T.2).1 = 0)) ⟨opOf L.1, 0, ⟨#[]⟩, 0, [], ⟨#[]⟩⟩ none 0) := S4.out.num hs
     go_wp2_with fail
     refine HC.out.mono ?_; rintro e w5 ⟨rfl, hS⟩; have S5 : Hid (SH w w5 s (numR 0 0 T.2).2.2 (T.1 || decide ((numR 0 0 T.2).1 = 0)) ⟨opOf L.1, 0, ⟨#[]⟩, 0, [], ⟨#[]⟩⟩ none 0) := hS; clear hS HC; obtain ⟨M, hM⟩ : ∃ x, numR 0 0 T.2 = x := ⟨_, rfl⟩; rw [hM] at S5 ⊢; have HM : Hid (numR 0 0 T.2 = M) := hM; clear hM; clear c0 c1 c2 c3 c4 c5 f0 f1 f2 f3 f4 f5 z1 r1 r2 hax hdx; obtain ⟨ax, ⟨hax, hdx⟩, r1, r2⟩ := S5.out.facts; obtain ⟨⟨c0, c1, c2, c3, c4, c5⟩, f0, f1, f2, f3, f4, f5⟩ := S5.out.ex.facts; have z1 := S5.out.sz; have S6 : Hid (SH w (w5.setCell ⟨w.heap.size + 2, 1, none⟩ (.int .i64 (M.2.1 : Int))) s M.2.2 (T.1 || decide (M.1 = 0)) ⟨opOf L.1, (M.2.1 : Int), ⟨#[]⟩, 0, [], ⟨#[]⟩⟩ none 0) := S5.out.setOf (M.2.1 : Int); obtain ⟨Y6, hY6⟩ : ∃ Y, Y = w5.setCell ⟨w.heap.size + 2, 1, none⟩ (.int .i64 (M.2.1 : Int)) := ⟨_, rfl⟩; have hY' : w5.setCell ⟨w.heap.size + 2, 1, none⟩ (.int .i64 (M.2.1 : Int)) = Y6 := hY6.symm; rw [← hY6] at S6; clear hY6; obtain ⟨⟨k60, k61, k62, k63, k64, k65⟩, l60, l61, l62, l63, l64, l65⟩ := S6.out.ex.facts; have zz6 := S6.out.sz; obtain ⟨B1, hB1⟩ : ∃ b, (T.1 || decide (M.1 = 0)) = b := ⟨_, rfl⟩; rw [hB1] at S6; have HB1 : Hid ((T.1 || decide (M.1 = 0)) = B1) := hB1; clear hB1
     have HRD : Hid (readS (bl s) = if opOf L.1 = 3 ∨ opOf L.1 = 4 then (if opOf L.1 = 3 then (B1 || (takeR [32] M.2.2).1 || (takeR [58, 32] (wordR (takeR [32] M.2.2).2).2).1, ⟨3, (M.2.1 : Int), mkB (wordR (takeR [32] M.2.2).2).1, 0, [], if B1 || (takeR [32] M.2.2).1 || (takeR [58, 32] (wordR (takeR [32] M.2.2).2).2).1 then ⟨#[]⟩ else mkB (takeR [58, 32] (wordR (takeR [32] M.2.2).2).2).2⟩) else (B1 || (takeR [32] M.2.2).1, ⟨4, (M.2.1 : Int), mkB (wordR (takeR [32] M.2.2).2).1, 0, [], ⟨#[]⟩⟩)) else (B1, ⟨opOf L.1, (M.2.1 : Int), ⟨#[]⟩, 0, [], ⟨#[]⟩⟩)) := by
      show readS (bl s) = _
      unfold readS; rw [HL.out]; simp only [HTT.out, HM.out, HB1.out, if_neg h1]; rfl
     have hl5 := S5.out.len
     by_cases h3 : opOf L.1 = 3
     ·
      have t3 : (opOf L.1 == 3) = true := by rw [h3]; rfl
      have HR3 : Hid (readS (bl s) = (B1 || (takeR [32] M.2.2).1 || (takeR [58, 32] (wordR (takeR [32] M.2.2).2).2).1, ⟨3, (M.2.1 : Int), mkB (wordR (takeR [32] M.2.2).2).1, 0, [], if B1 || (takeR [32] M.2.2).1 || (takeR [58, 32] (wordR (takeR [32] M.2.2).2).2).1 then ⟨#[]⟩ else mkB (takeR [58, 32] (wordR (takeR [32] M.2.2).2).2).2⟩)) := by
       show readS (bl s) = _
       rw [HRD.out, if_pos (Or.inl h3), if_pos h3]
      have HC : Hid (Calls Tryz.prog 46 #[.pointer (some ⟨w.heap.size + 1, 0, none⟩), .string ⟨#[32]⟩] _ fun e w' => e = .returned (.tuple #[]) ∧ SH w w' s (takeR [32] M.2.2).2 (B1 || (takeR [32] M.2.2).1) ⟨opOf L.1, (M.2.1 : Int), ⟨#[]⟩, 0, [], ⟨#[]⟩⟩ none 0) := S6.out.take hs ⟨#[32]⟩ (by decide)
      go_wp2_with fail
      try rw [hY']
      clear hY'; refine HC.out.mono ?_; rintro e w7 ⟨rfl, hS⟩; have S7 : Hid (SH w w7 s (takeR [32] M.2.2).2 (B1 || (takeR [32] M.2.2).1) ⟨opOf L.1, (M.2.1 : Int), ⟨#[]⟩, 0, [], ⟨#[]⟩⟩ none 0) := hS; clear hS HC; obtain ⟨U, hU⟩ : ∃ x, takeR [32] M.2.2 = x := ⟨_, rfl⟩; rw [hU] at S7 HR3; have HU : Hid (takeR [32] M.2.2 = U) := hU; clear hU; have HC : Hid (Calls Tryz.prog 45 #[.pointer (some ⟨w.heap.size + 1, 0, none⟩)] _ fun e w' => e = .returned (.string (mkB (wordR U.2).1)) ∧ SH w w' s (wordR U.2).2 (B1 || U.1) ⟨opOf L.1, (M.2.1 : Int), ⟨#[]⟩, 0, [], ⟨#[]⟩⟩ none 0) := S7.out.word hs
      go_wp2_with fail
      refine HC.out.mono ?_; rintro e w8 ⟨rfl, hS⟩; have S8 : Hid (SH w w8 s (wordR U.2).2 (B1 || U.1) ⟨opOf L.1, (M.2.1 : Int), ⟨#[]⟩, 0, [], ⟨#[]⟩⟩ none 0) := hS; clear hS HC; obtain ⟨V, hV⟩ : ∃ x, wordR U.2 = x := ⟨_, rfl⟩; rw [hV] at S8 HR3 ⊢; have HV : Hid (wordR U.2 = V) := hV; clear hV; clear c0 c1 c2 c3 c4 c5 f0 f1 f2 f3 f4 f5 z1 r1 r2 hax hdx; obtain ⟨ax, ⟨hax, hdx⟩, r1, r2⟩ := S8.out.facts; obtain ⟨⟨c0, c1, c2, c3, c4, c5⟩, f0, f1, f2, f3, f4, f5⟩ := S8.out.ex.facts; have z1 := S8.out.sz; have S9 : Hid (SH w (w8.setCell ⟨w.heap.size + 2, 2, none⟩ (.string (mkB V.1))) s V.2 (B1 || U.1) ⟨opOf L.1, (M.2.1 : Int), (mkB V.1), 0, [], ⟨#[]⟩⟩ none 0) := S8.out.setHolder (mkB V.1); obtain ⟨Y9, hY9⟩ : ∃ Y, Y = w8.setCell ⟨w.heap.size + 2, 2, none⟩ (.string (mkB V.1)) := ⟨_, rfl⟩; have hY' : w8.setCell ⟨w.heap.size + 2, 2, none⟩ (.string (mkB V.1)) = Y9 := hY9.symm; rw [← hY9] at S9; clear hY9; obtain ⟨⟨k90, k91, k92, k93, k94, k95⟩, l90, l91, l92, l93, l94, l95⟩ := S9.out.ex.facts; have zz9 := S9.out.sz; have HC : Hid (Calls Tryz.prog 46 #[.pointer (some ⟨w.heap.size + 1, 0, none⟩), .string ⟨#[58, 32]⟩] _ fun e w' => e = .returned (.tuple #[]) ∧ SH w w' s (takeR [58, 32] V.2).2 ((B1 || U.1) || (takeR [58, 32] V.2).1) ⟨opOf L.1, (M.2.1 : Int), (mkB V.1), 0, [], ⟨#[]⟩⟩ none 0) := S9.out.take hs ⟨#[58, 32]⟩ (by decide)
      go_wp2_with fail
      try rw [hY']
      clear hY'; refine HC.out.mono ?_; rintro e w10 ⟨rfl, hS⟩; have S10 : Hid (SH w w10 s (takeR [58, 32] V.2).2 ((B1 || U.1) || (takeR [58, 32] V.2).1) ⟨opOf L.1, (M.2.1 : Int), (mkB V.1), 0, [], ⟨#[]⟩⟩ none 0) := hS; clear hS HC; obtain ⟨X, hX⟩ : ∃ x, takeR [58, 32] V.2 = x := ⟨_, rfl⟩; rw [hX] at S10 HR3; have HX : Hid (takeR [58, 32] V.2 = X) := hX; clear hX; have hlv := S8.out.len; have hl10 := S10.out.len; have hV1 : V.1.length ≤ s.size := by have := (wordR_len U.2).1; rw [HV.out] at this; have := S7.out.len; omega
      obtain ⟨B3, hB3⟩ : ∃ b, (B1 || U.1 || X.1) = b := ⟨_, rfl⟩; rw [hB3] at S10 HR3; clear hB3; clear c0 c1 c2 c3 c4 c5 f0 f1 f2 f3 f4 f5 z1 r1 r2 hax hdx; obtain ⟨ax, ⟨hax, hdx⟩, r1, r2⟩ := S10.out.facts; obtain ⟨⟨c0, c1, c2, c3, c4, c5⟩, f0, f1, f2, f3, f4, f5⟩ := S10.out.ex.facts; have z1 := S10.out.sz; cases B3 with
      | true =>
       go_wp2
       go_meet
       case rel => exact ⟨_, true, _, none, 0, S10.out, by rw [HR3.out], fun e => absurd e (by decide), fun e => absurd e (by decide)⟩
      | false =>
       have hxa : (0 : Int) ≤ (ax : Int) := by omega
       have hxb : (ax : Int) ≤ (s.size : Int) := by omega
       have S11 : Hid (SH w (w10.setCell ⟨w.heap.size + 2, 5, none⟩ (.string (s.extract ax s.size))) s X.2 false ⟨opOf L.1, (M.2.1 : Int), (mkB V.1), 0, [], s.extract ax s.size⟩ none 0) := S10.out.setText (s.extract ax s.size)
       have hex : Hid (s.extract ax s.size = mkB X.2) := by
        show _ = _
        apply bl_inj; rw [bl_mkB, bl_extract, hdx, List.take_of_length_le (by rw [List.length_drop, bl_size]; omega)]
       go_wp2
       go_meet
       case rel =>
        refine ⟨X.2, false, _, none, 0, S11.out, by rw [HR3.out], fun _ => ?_, fun _ => ⟨by rw [mkB_size]; omega, by rw [hex.out, mkB_size]; omega, Nat.zero_le _⟩⟩; rw [HR3.out, hex.out, h3]; rfl
     by_cases h4 : opOf L.1 = 4
     ·
      have t3 : (opOf L.1 == 3) = false := beq_eq_false_iff_ne.2 h3; have t4 : (opOf L.1 == 4) = true := by rw [h4]; rfl
      have HR4 : Hid (readS (bl s) = (B1 || (takeR [32] M.2.2).1, ⟨4, (M.2.1 : Int), mkB (wordR (takeR [32] M.2.2).2).1, 0, [], ⟨#[]⟩⟩)) := by
       show readS (bl s) = _
       rw [HRD.out, if_pos (Or.inr h4), if_neg h3]
      have HC : Hid (Calls Tryz.prog 46 #[.pointer (some ⟨w.heap.size + 1, 0, none⟩), .string ⟨#[32]⟩] _ fun e w' => e = .returned (.tuple #[]) ∧ SH w w' s (takeR [32] M.2.2).2 (B1 || (takeR [32] M.2.2).1) ⟨opOf L.1, (M.2.1 : Int), ⟨#[]⟩, 0, [], ⟨#[]⟩⟩ none 0) := S6.out.take hs ⟨#[32]⟩ (by decide)
      go_wp2_with fail
      try rw [hY']
      clear hY'; refine HC.out.mono ?_; rintro e w7 ⟨rfl, hS⟩; have S7 : Hid (SH w w7 s (takeR [32] M.2.2).2 (B1 || (takeR [32] M.2.2).1) ⟨opOf L.1, (M.2.1 : Int), ⟨#[]⟩, 0, [], ⟨#[]⟩⟩ none 0) := hS; clear hS HC; obtain ⟨U, hU⟩ : ∃ x, takeR [32] M.2.2 = x := ⟨_, rfl⟩; rw [hU] at S7 HR4; have HU : Hid (takeR [32] M.2.2 = U) := hU; clear hU; have HC : Hid (Calls Tryz.prog 45 #[.pointer (some ⟨w.heap.size + 1, 0, none⟩)] _ fun e w' => e = .returned (.string (mkB (wordR U.2).1)) ∧ SH w w' s (wordR U.2).2 (B1 || U.1) ⟨opOf L.1, (M.2.1 : Int), ⟨#[]⟩, 0, [], ⟨#[]⟩⟩ none 0) := S7.out.word hs
      go_wp2_with fail
      refine HC.out.mono ?_; rintro e w8 ⟨rfl, hS⟩; have S8 : Hid (SH w w8 s (wordR U.2).2 (B1 || U.1) ⟨opOf L.1, (M.2.1 : Int), ⟨#[]⟩, 0, [], ⟨#[]⟩⟩ none 0) := hS; clear hS HC; obtain ⟨V, hV⟩ : ∃ x, wordR U.2 = x := ⟨_, rfl⟩; rw [hV] at S8 HR4 ⊢; have HV : Hid (wordR U.2 = V) := hV; clear hV; clear c0 c1 c2 c3 c4 c5 f0 f1 f2 f3 f4 f5 z1 r1 r2 hax hdx; obtain ⟨ax, ⟨hax, hdx⟩, r1, r2⟩ := S8.out.facts; obtain ⟨⟨c0, c1, c2, c3, c4, c5⟩, f0, f1, f2, f3, f4, f5⟩ := S8.out.ex.facts; have z1 := S8.out.sz; have hV1 : V.1.length ≤ s.size := by have := (wordR_len U.2).1; rw [HV.out] at this; have := S7.out.len; omega
      have S9 : Hid (SH w (w8.setCell ⟨w.heap.size + 2, 2, none⟩ (.string (mkB V.1))) s V.2 (B1 || U.1) ⟨opOf L.1, (M.2.1 : Int), (mkB V.1), 0, [], ⟨#[]⟩⟩ none 0) := S8.out.setHolder (mkB V.1); go_wp2
      go_meet
      case rel =>
       refine ⟨V.2, (B1 || U.1), _, none, 0, S9.out, by rw [HR4.out], fun _ => ?_, fun _ => ⟨by rw [mkB_size]; omega, Nat.zero_le _, Nat.zero_le _⟩⟩; rw [HR4.out, h4]
     have t3 : (opOf L.1 == 3) = false := beq_eq_false_iff_ne.2 h3; have t4 : (opOf L.1 == 4) = false := beq_eq_false_iff_ne.2 h4
     have HR5 : Hid (readS (bl s) = (B1, ⟨opOf L.1, (M.2.1 : Int), ⟨#[]⟩, 0, [], ⟨#[]⟩⟩)) := by
      show readS (bl s) = _
      rw [HRD.out, if_neg (by omega)]
     go_wp2
     go_meet
     case rel => exact ⟨M.2.2, B1, _, none, 0, S6.out, by rw [HR5.out], fun _ => by rw [HR5.out], fun _ => ⟨Nat.zero_le _, Nat.zero_le _, Nat.zero_le _⟩⟩
   case rest =>
    obtain ⟨l, bad, E, ad, c, hSH, hbad, hE, hbd⟩ := hcut; have SC : Hid (SH w wc s l bad E ad c) := hSH; clear hSH S4; cases bad with
    | true =>
     have HNO : Hid (∀ E, LineOk E → lineT E ≠ bl s) := fun E' h' e' => by
      have h1 := readS_line h'; rw [e'] at h1; rw [h1] at hbad; cases hbad
     have xa := SC.out.ans; have hc : ∀ i u, (#[Value.bool false, Value.int .i64 0, Value.int .i64 0, Value.string ⟨#[]⟩, Value.int .i64 0, Value.slice none 0 0, Value.string ⟨#[]⟩] : Array Value)[i]? = some u → wc.cell? ⟨w.heap.size, i, none⟩ = some u := fun i u h => cell_of_box xa h; have e0 := hc 0 _ rfl; have e1 := hc 1 _ rfl; have e2 := hc 2 _ rfl; have e3 := hc 3 _ rfl; have e4 := hc 4 _ rfl; have e5 := hc 5 _ rfl; have e6 := hc 6 _ rfl; have g0 : wc.frozen? ⟨w.heap.size, 0, none⟩ = false := frozen_of_box xa; have g1 : wc.frozen? ⟨w.heap.size, 1, none⟩ = false := frozen_of_box xa; have g2 : wc.frozen? ⟨w.heap.size, 2, none⟩ = false := frozen_of_box xa; have g3 : wc.frozen? ⟨w.heap.size, 3, none⟩ = false := frozen_of_box xa; have g4 : wc.frozen? ⟨w.heap.size, 4, none⟩ = false := frozen_of_box xa; have g5 : wc.frozen? ⟨w.heap.size, 5, none⟩ = false := frozen_of_box xa; have g6 : wc.frozen? ⟨w.heap.size, 6, none⟩ = false := frozen_of_box xa; obtain ⟨Z, hZ⟩ : ∃ Z, Z = put7 wc w.heap.size (.bool false) (.int .i64 0) (.int .i64 0) (.string ⟨#[]⟩) (.int .i64 0) (.slice none 0 0) (.string ⟨#[]⟩) := ⟨_, rfl⟩; have hZ' : (((((((wc.setCell ⟨w.heap.size, 0, none⟩ (.bool false)).setCell ⟨w.heap.size, 1, none⟩ (.int .i64 0)).setCell ⟨w.heap.size, 2, none⟩ (.int .i64 0)).setCell ⟨w.heap.size, 3, none⟩ (.string ⟨#[]⟩)).setCell ⟨w.heap.size, 4, none⟩ (.int .i64 0)).setCell ⟨w.heap.size, 5, none⟩ (.slice none 0 0)).setCell ⟨w.heap.size, 6, none⟩ (.string ⟨#[]⟩)) = Z := hZ.symm
     have HZ : Hid (Z.heap[w.heap.size]? = some (.cells #[.bool false, .int .i64 0, .int .i64 0, .string ⟨#[]⟩, .int .i64 0, .slice none 0 0, .string ⟨#[]⟩] 46 (0, 0)) ∧ Fr (fun x => x = w.heap.size) wc Z) := by
      rw [hZ]; exact ⟨put7_box xa _ _ _ _ _ _ _, put7_fr _ _ _ _ _ _ _ _ _⟩
     clear hZ hc xa; clear hbad hE hbd; obtain ⟨ay, ⟨hay, hdx⟩, r1, r2⟩ := SC.out.facts; obtain ⟨⟨c0, c1, c2, c3, c4, c5⟩, f0, f1, f2, f3, f4, f5⟩ := SC.out.ex.facts; have z1 := SC.out.sz; go_wp2
     try rw [hZ']
     clear hZ' e0 e1 e2 e3 e4 e5 e6 g0 g1 g2 g3 g4 g5 g6; have hc : ∀ i u, (#[Value.bool false, .int .i64 0, .int .i64 0, .string ⟨#[]⟩, .int .i64 0, .slice none 0 0, .string ⟨#[]⟩] : Array Value)[i]? = some u → Z.cell? ⟨w.heap.size, i, none⟩ = some u := fun i u h => cell_of_box HZ.out.1 h; have e0 := hc 0 _ rfl; have e1 := hc 1 _ rfl; have e2 := hc 2 _ rfl; have e3 := hc 3 _ rfl; have e4 := hc 4 _ rfl; have e5 := hc 5 _ rfl; have e6 := hc 6 _ rfl; refine bodyPost_ret (v := .agg #[.bool false, .int .i64 0, .int .i64 0, .string ⟨#[]⟩, .int .i64 0, .slice none 0 0, .string ⟨#[]⟩]) (by simp [results, Tryz.results17, go_sem, e0, e1, e2, e3, e4, e5, e6]) rfl ?_; exact ⟨Or.inr ⟨HNO.out, rfl⟩, SC.out.bel.trans (HZ.out.2.below (B := w.heap.size) (by have := SC.out.sz; omega) (fun i e => by omega))⟩
    | false =>
     have EA : EvAt wc (.agg #[.int .i64 E.op, .int .i64 E.of_, .string E.holder, .int .i64 E.kind, .slice ad E.secs.length c, .string E.text]) E := evW_at ⟨_, rfl, SC.out.ex.own⟩; obtain ⟨b1, b2, b3⟩ := hbd rfl; have HLn : Hid (Calls Tryz.prog 14 #[.agg #[.int .i64 E.op, .int .i64 E.of_, .string E.holder, .int .i64 E.kind, .slice ad E.secs.length c, .string E.text]] wc fun e w' => RetLn e E ∧ Below wc.heap.size wc w') := specLine_any _ E wc b1 b2 b3 EA; have HE : Hid (readS (bl s) = (false, E)) := Prod.ext hbad.symm (hE rfl).symm; clear EA hbad hE hbd; obtain ⟨ay, ⟨hay, hdx⟩, r1, r2⟩ := SC.out.facts; obtain ⟨⟨c0, c1, c2, c3, c4, c5⟩, f0, f1, f2, f3, f4, f5⟩ := SC.out.ex.facts; have z1 := SC.out.sz
     go_wp2_with fail
     refine HLn.out.mono ?_; rintro e w6 ⟨⟨t, rfl, ht⟩, hb6⟩; have S6 : Hid (SH w w6 s l false E ad c) := SC.out.below hb6; clear hb6 HLn; clear c0 c1 c2 c3 c4 c5 f0 f1 f2 f3 f4 f5 z1 r1 r2 hay hdx; obtain ⟨az, ⟨haz, hdx⟩, r1, r2⟩ := S6.out.facts; obtain ⟨⟨c0, c1, c2, c3, c4, c5⟩, f0, f1, f2, f3, f4, f5⟩ := S6.out.ex.facts; have z1 := S6.out.sz
     by_cases hts : t = s
     ·
      have te : (t.toList == s.toList) = true := by rw [hts]; exact beq_self_eq_true _
      have HOK : Hid (LineOk E ∧ lineT E = bl s) := by
       rcases ht with ⟨h1, h2⟩ | ⟨h1, h2⟩
       · exact ⟨h1, by rw [← h2, hts]⟩
       ·
        have := HE.out; rw [← hts, h2] at this; have h3 := readS_nil; rw [this] at h3; cases h3
      have xa := S6.out.ans; have hc : ∀ i u, (#[Value.bool false, Value.int .i64 0, Value.int .i64 0, Value.string ⟨#[]⟩, Value.int .i64 0, Value.slice none 0 0, Value.string ⟨#[]⟩] : Array Value)[i]? = some u → w6.cell? ⟨w.heap.size, i, none⟩ = some u := fun i u h => cell_of_box xa h; have e0 := hc 0 _ rfl; have e1 := hc 1 _ rfl; have e2 := hc 2 _ rfl; have e3 := hc 3 _ rfl; have e4 := hc 4 _ rfl; have e5 := hc 5 _ rfl; have e6 := hc 6 _ rfl; have g0 : w6.frozen? ⟨w.heap.size, 0, none⟩ = false := frozen_of_box xa; have g1 : w6.frozen? ⟨w.heap.size, 1, none⟩ = false := frozen_of_box xa; have g2 : w6.frozen? ⟨w.heap.size, 2, none⟩ = false := frozen_of_box xa; have g3 : w6.frozen? ⟨w.heap.size, 3, none⟩ = false := frozen_of_box xa; have g4 : w6.frozen? ⟨w.heap.size, 4, none⟩ = false := frozen_of_box xa; have g5 : w6.frozen? ⟨w.heap.size, 5, none⟩ = false := frozen_of_box xa; have g6 : w6.frozen? ⟨w.heap.size, 6, none⟩ = false := frozen_of_box xa; obtain ⟨Z, hZ⟩ : ∃ Z, Z = put7 w6 w.heap.size (.bool true) (.int .i64 E.op) (.int .i64 E.of_) (.string E.holder) (.int .i64 E.kind) (.slice ad E.secs.length c) (.string E.text) := ⟨_, rfl⟩; have hZ' : (((((((w6.setCell ⟨w.heap.size, 0, none⟩ (.bool true)).setCell ⟨w.heap.size, 1, none⟩ (.int .i64 E.op)).setCell ⟨w.heap.size, 2, none⟩ (.int .i64 E.of_)).setCell ⟨w.heap.size, 3, none⟩ (.string E.holder)).setCell ⟨w.heap.size, 4, none⟩ (.int .i64 E.kind)).setCell ⟨w.heap.size, 5, none⟩ (.slice ad E.secs.length c)).setCell ⟨w.heap.size, 6, none⟩ (.string E.text)) = Z := hZ.symm
      have HZ : Hid (Z.heap[w.heap.size]? = some (.cells #[.bool true, .int .i64 E.op, .int .i64 E.of_, .string E.holder, .int .i64 E.kind, .slice ad E.secs.length c, .string E.text] 46 (0, 0)) ∧ Fr (fun x => x = w.heap.size) w6 Z) := by
       rw [hZ]; exact ⟨put7_box xa _ _ _ _ _ _ _, put7_fr _ _ _ _ _ _ _ _ _⟩
      clear hZ hc xa; clear ht hts; go_wp2
      try rw [hZ']
      clear hZ' e0 e1 e2 e3 e4 e5 e6 g0 g1 g2 g3 g4 g5 g6; have hc : ∀ i u, (#[Value.bool true, .int .i64 E.op, .int .i64 E.of_, .string E.holder, .int .i64 E.kind, .slice ad E.secs.length c, .string E.text] : Array Value)[i]? = some u → Z.cell? ⟨w.heap.size, i, none⟩ = some u := fun i u h => cell_of_box HZ.out.1 h; have e0 := hc 0 _ rfl; have e1 := hc 1 _ rfl; have e2 := hc 2 _ rfl; have e3 := hc 3 _ rfl; have e4 := hc 4 _ rfl; have e5 := hc 5 _ rfl; have e6 := hc 6 _ rfl; refine bodyPost_ret (v := .agg #[.bool true, .int .i64 E.op, .int .i64 E.of_, .string E.holder, .int .i64 E.kind, .slice ad E.secs.length c, .string E.text]) (by simp [results, Tryz.results17, go_sem, e0, e1, e2, e3, e4, e5, e6]) rfl ?_; exact ⟨Or.inl ⟨E, ad, c, HOK.out.1, HOK.out.2, rfl, owns_lower (owns_of_block S6.out.ex.own (fun g hg => HZ.out.2.block g (owns_lt S6.out.ex.own hg).2 (by have := owns_lt S6.out.ex.own hg; omega))) (by omega)⟩, S6.out.bel.trans (HZ.out.2.below (B := w.heap.size) (by have := S6.out.sz; omega) (fun i e => by omega))⟩
     ·
      have te : (t.toList == s.toList) = false := by
       rw [ByteArray.toList_eq, ByteArray.toList_eq]; exact beq_eq_false_iff_ne.2 (fun e => hts (bl_inj e))
      have HNO : Hid (∀ E, LineOk E → lineT E ≠ bl s) := fun E' h' e' => by
       have h1 := readS_line h'; rw [e', HE.out] at h1; cases h1; rcases ht with ⟨h2, h3⟩ | ⟨h2, h3⟩
       · exact hts (bl_inj (h3.trans e'))
       · exact h2 h'
      have xa := S6.out.ans; have hc : ∀ i u, (#[Value.bool false, Value.int .i64 0, Value.int .i64 0, Value.string ⟨#[]⟩, Value.int .i64 0, Value.slice none 0 0, Value.string ⟨#[]⟩] : Array Value)[i]? = some u → w6.cell? ⟨w.heap.size, i, none⟩ = some u := fun i u h => cell_of_box xa h; have e0 := hc 0 _ rfl; have e1 := hc 1 _ rfl; have e2 := hc 2 _ rfl; have e3 := hc 3 _ rfl; have e4 := hc 4 _ rfl; have e5 := hc 5 _ rfl; have e6 := hc 6 _ rfl; have g0 : w6.frozen? ⟨w.heap.size, 0, none⟩ = false := frozen_of_box xa; have g1 : w6.frozen? ⟨w.heap.size, 1, none⟩ = false := frozen_of_box xa; have g2 : w6.frozen? ⟨w.heap.size, 2, none⟩ = false := frozen_of_box xa; have g3 : w6.frozen? ⟨w.heap.size, 3, none⟩ = false := frozen_of_box xa; have g4 : w6.frozen? ⟨w.heap.size, 4, none⟩ = false := frozen_of_box xa; have g5 : w6.frozen? ⟨w.heap.size, 5, none⟩ = false := frozen_of_box xa; have g6 : w6.frozen? ⟨w.heap.size, 6, none⟩ = false := frozen_of_box xa; obtain ⟨Z, hZ⟩ : ∃ Z, Z = put7 w6 w.heap.size (.bool false) (.int .i64 0) (.int .i64 0) (.string ⟨#[]⟩) (.int .i64 0) (.slice none 0 0) (.string ⟨#[]⟩) := ⟨_, rfl⟩; have hZ' : (((((((w6.setCell ⟨w.heap.size, 0, none⟩ (.bool false)).setCell ⟨w.heap.size, 1, none⟩ (.int .i64 0)).setCell ⟨w.heap.size, 2, none⟩ (.int .i64 0)).setCell ⟨w.heap.size, 3, none⟩ (.string ⟨#[]⟩)).setCell ⟨w.heap.size, 4, none⟩ (.int .i64 0)).setCell ⟨w.heap.size, 5, none⟩ (.slice none 0 0)).setCell ⟨w.heap.size, 6, none⟩ (.string ⟨#[]⟩)) = Z := hZ.symm
      have HZ : Hid (Z.heap[w.heap.size]? = some (.cells #[.bool false, .int .i64 0, .int .i64 0, .string ⟨#[]⟩, .int .i64 0, .slice none 0 0, .string ⟨#[]⟩] 46 (0, 0)) ∧ Fr (fun x => x = w.heap.size) w6 Z) := by
       rw [hZ]; exact ⟨put7_box xa _ _ _ _ _ _ _, put7_fr _ _ _ _ _ _ _ _ _⟩
      clear hZ hc xa; clear ht hts; go_wp2
      try rw [hZ']
      clear hZ' e0 e1 e2 e3 e4 e5 e6 g0 g1 g2 g3 g4 g5 g6; have hc : ∀ i u, (#[Value.bool false, .int .i64 0, .int .i64 0, .string ⟨#[]⟩, .int .i64 0, .slice none 0 0, .string ⟨#[]⟩] : Array Value)[i]? = some u → Z.cell? ⟨w.heap.size, i, none⟩ = some u := fun i u h => cell_of_box HZ.out.1 h; have e0 := hc 0 _ rfl; have e1 := hc 1 _ rfl; have e2 := hc 2 _ rfl; have e3 := hc 3 _ rfl; have e4 := hc 4 _ rfl; have e5 := hc 5 _ rfl; have e6 := hc 6 _ rfl; refine bodyPost_ret (v := .agg #[.bool false, .int .i64 0, .int .i64 0, .string ⟨#[]⟩, .int .i64 0, .slice none 0 0, .string ⟨#[]⟩]) (by simp [results, Tryz.results17, go_sem, e0, e1, e2, e3, e4, e5, e6]) rfl ?_; exact ⟨Or.inr ⟨HNO.out, rfl⟩, S6.out.bel.trans (HZ.out.2.below (B := w.heap.size) (by have := S6.out.sz; omega) (fun i e => by omega))⟩
end Go.Proofs.YtdlaekjofgbjcaaGreatDoor
