/-
  What spec.Hear keeps while it reads. Mine, by program (wip/heare.py), by template (wip/gen.py).
-/
import Derived.Test.YtdlaekjofgbjcaaGreatDoorHearD
import Derived.Test.YtdlaekjofgbjcaaGreatDoorHearN
import Derived.Test.YtdlaekjofgbjcaaGreatDoorHearY
import Derived.Test.YtdlaekjofgbjcaaGreatDoorSLine
namespace Go.Proofs.YtdlaekjofgbjcaaGreatDoor
open Go.RowKit
def RdTo (w : World) (q : Nat) (s : ByteArray) (l : List UInt8) (bad : Bool) : Prop := ∃ a, a ≤ s.size ∧ l = (bl s).drop a ∧ RdAt w q s a bad
theorem bl_extract (s : ByteArray) (a k : Nat) : bl (s.extract a k) = ((bl s).drop a).take (k - a) := by
  unfold bl
  rw [ByteArray.data_extract, Array.toList_extract, List.extract_eq_take_drop]
theorem low_iff {b : UInt8} : low b = true ↔ lowN b.toNat := by unfold low lowN; simp
theorem wordR_at {s : ByteArray} {a k : Nat} (h1 : a ≤ k) (h2 : k ≤ s.size) (h3 : ∀ j, a ≤ j → j < k → lowN (chr s j)) (h4 : k < s.size → ¬ lowN (chr s k)) : wordR ((bl s).drop a) = (bl (s.extract a k), (bl s).drop k) := by
  have e : (bl s).drop a = bl (s.extract a k) ++ (bl s).drop k := by
    rw [bl_extract]
    have := (List.take_append_drop (k - a) ((bl s).drop a)).symm
    rw [List.drop_drop, show a + (k - a) = k by omega] at this
    exact this
  rw [e]
  refine wordR_all _ _ (fun b hb => ?_) (fun b r hr => ?_)
  · rw [bl_extract] at hb
    obtain ⟨i, hi, rfl⟩ := List.getElem_of_mem hb
    have hi2 : i < k - a := by simp only [List.length_take] at hi; omega
    rw [List.getElem_take, List.getElem_drop]
    have hk : a + i < (bl s).length := by rw [bl_size]; omega
    have := h3 (a + i) (by omega) (by omega)
    rw [low_iff]
    have ec : chr s (a + i) = ((bl s)[a + i]).toNat := by
      unfold chr
      have e : s.data.toList[a + i]? = some ((bl s)[a + i]) := List.getElem?_eq_getElem hk
      rw [List.getD_eq_getElem?_getD, e]
      rfl
    rw [ec] at this
    exact this
  · by_cases hk : k < s.size
    · obtain ⟨b', e1, e2, -⟩ := drop_chr s k hk
      rw [e1] at hr
      simp only [List.cons.injEq] at hr
      have h := h4 hk
      rw [← e2, hr.1] at h
      cases hl : low b with
      | false => rfl
      | true => exact absurd (low_iff.1 hl) h
    · rw [List.drop_eq_nil_of_le (by rw [bl_size]; omega)] at hr
      cases hr
theorem takeR_at {s t : ByteArray} {a : Nat} (ha : a ≤ s.size) : (Stands s t a → takeR (bl t) ((bl s).drop a) = (false, (bl s).drop (a + t.size))) ∧ (¬ Stands s t a → takeR (bl t) ((bl s).drop a) = (true, (bl s).drop a)) := by
  have hl : ((bl s).drop a).length = s.size - a := by rw [List.length_drop, bl_size]
  have hp : (bl t).isPrefixOf ((bl s).drop a) = true ↔ Stands s t a := by
    rw [List.isPrefixOf_iff_prefix]
    constructor
    · intro h
      have h1 := h.length_le
      rw [hl, bl_size] at h1
      refine ⟨by omega, bl_inj ?_⟩
      rw [bl_extract, show a + t.size - a = (bl t).length by rw [bl_size]; omega]
      exact (List.prefix_iff_eq_take.1 h).symm
    · intro h
      have e := congrArg bl h.2
      rw [bl_extract, show a + t.size - a = t.size by omega] at e
      rw [← e]
      exact List.take_prefix _ _
  constructor
  · intro h
    unfold takeR
    rw [if_pos (hp.2 h), List.drop_drop, bl_size]
  · intro h
    unfold takeR
    rw [if_neg (fun e => h (hp.1 e))]
theorem drop_nil_iff {s : ByteArray} {a : Nat} (ha : a ≤ s.size) : (bl s).drop a = [] ↔ a = s.size := by
  rw [List.drop_eq_nil_iff, bl_size]
  omega
structure SH (w wr : World) (s : ByteArray) (l : List UInt8) (bad : Bool) (E : Ev) (ad : Option Addr) (c : Nat) : Prop where
  rd : RdTo wr (w.heap.size + 1) s l bad
  ex : EX wr (w.heap.size + 3) (w.heap.size + 2) E ad c
  ans : wr.heap[w.heap.size]? = some (.cells #[.bool false, .int .i64 0, .int .i64 0, .string ⟨#[]⟩, .int .i64 0, .slice none 0 0, .string ⟨#[]⟩] 46 (0, 0))
  bel : Below w.heap.size w wr
theorem RdTo.of {S : Nat → Prop} {w w' : World} {q : Nat} {s : ByteArray} {l : List UInt8} {bad : Bool} (h : RdTo w q s l bad) (hf : Fr S w w') (hq : ¬ S q) : RdTo w' q s l bad := by
  obtain ⟨a, h1, h2, h3⟩ := h
  exact ⟨a, h1, h2, (hf.block q (Array.getElem?_eq_some_iff.1 h3).1 hq).trans h3⟩
theorem SH.sz {w wr : World} {s : ByteArray} {l : List UInt8} {bad : Bool} {E : Ev} {ad : Option Addr} {c : Nat} (h : SH w wr s l bad E ad c) : w.heap.size + 2 < wr.heap.size := h.ex.lt
theorem SH.len {w wr : World} {s : ByteArray} {l : List UInt8} {bad : Bool} {E : Ev} {ad : Option Addr} {c : Nat} (h : SH w wr s l bad E ad c) : l.length ≤ s.size := by
  obtain ⟨a, h1, h2, -⟩ := h.rd
  rw [h2, List.length_drop, bl_size]
  omega
theorem SH.below {w wr w' : World} {s : ByteArray} {l : List UInt8} {bad : Bool} {E : Ev} {ad : Option Addr} {c : Nat} (h : SH w wr s l bad E ad c) (hb : Below wr.heap.size wr w') : SH w w' s l bad E ad c :=
  ⟨h.rd.of (Fr.of_below (S := fun _ => False) hb) (fun e => e), h.ex.below hb, (hb.block _ (by have := h.sz; omega)).trans h.ans, h.bel.trans (hb.mono (by have := h.sz; omega))⟩
theorem SH.call {w wr w' : World} {s : ByteArray} {l l' : List UInt8} {bad bad' : Bool} {E : Ev} {ad : Option Addr} {c : Nat} (h : SH w wr s l bad E ad c) (hf : Fr (fun x => x = w.heap.size + 1) wr w') (hr : RdTo w' (w.heap.size + 1) s l' bad') : SH w w' s l' bad' E ad c :=
  ⟨hr, h.ex.fr hf (by omega) (fun g hg e => by omega), (hf.block _ (by have := h.sz; omega) (by omega)).trans h.ans, h.bel.trans (hf.below (by have := h.sz; omega) (fun i e => by omega))⟩
theorem SH.word {w wr : World} {s : ByteArray} {l : List UInt8} {bad : Bool} {E : Ev} {ad : Option Addr} {c : Nat} (h : SH w wr s l bad E ad c) (hs : s.size ≤ 1048576) :
    Calls Tryz.prog 45 #[.pointer (some ⟨w.heap.size + 1, 0, none⟩)] wr fun e w' => e = .returned (.string (mkB (wordR l).1)) ∧ SH w w' s (wordR l).2 bad E ad c := by
  obtain ⟨a, h1, h2, h3⟩ := h.rd
  refine (word_any _ s a bad wr (by omega) h1 h3).mono ?_
  rintro e w' ⟨k, k1, k2, k3, k4, k5, k6, k7⟩
  have ew := wordR_at k1 k2 k3 k4
  rw [← h2] at ew
  rw [ew]
  exact ⟨by rw [k5, mkB_bl], h.call k7 ⟨k, k2, rfl, k6⟩⟩
theorem SH.take {w wr : World} {s : ByteArray} {l : List UInt8} {bad : Bool} {E : Ev} {ad : Option Addr} {c : Nat} (h : SH w wr s l bad E ad c) (hs : s.size ≤ 1048576) (t : ByteArray) (ht : t.size ≤ 100) :
    Calls Tryz.prog 46 #[.pointer (some ⟨w.heap.size + 1, 0, none⟩), .string t] wr fun e w' => e = .returned (.tuple #[]) ∧ SH w w' s (takeR (bl t) l).2 (bad || (takeR (bl t) l).1) E ad c := by
  obtain ⟨a, h1, h2, h3⟩ := h.rd
  refine (take_any _ s t a bad wr (by omega) ht h1 h3).mono ?_
  rintro e w' ⟨rfl, hr, hf⟩
  obtain ⟨t1, t2⟩ := takeR_at (t := t) h1
  rcases hr with ⟨q1, q2⟩ | ⟨q1, q2⟩
  · have e1 := t1 q1
    rw [← h2] at e1
    rw [e1]
    exact ⟨rfl, h.call hf ⟨a + t.size, q1.1, rfl, by rw [Bool.or_false]; exact q2⟩⟩
  · have e1 := t2 q1
    rw [← h2] at e1
    rw [e1]
    exact ⟨rfl, h.call hf ⟨a, h1, h2, by rw [Bool.or_true]; exact q2⟩⟩
theorem SH.num {w wr : World} {s : ByteArray} {l : List UInt8} {bad : Bool} {E : Ev} {ad : Option Addr} {c : Nat} (h : SH w wr s l bad E ad c) (hs : s.size ≤ 1048576) :
    Calls Tryz.prog 47 #[.pointer (some ⟨w.heap.size + 1, 0, none⟩)] wr fun e w' => e = .returned (.int .i64 ((numR 0 0 l).2.1 : Int)) ∧ SH w w' s (numR 0 0 l).2.2 (bad || decide ((numR 0 0 l).1 = 0)) E ad c := by
  obtain ⟨a, h1, h2, h3⟩ := h.rd
  refine (num_any _ s a bad wr (by omega) h1 h3).mono ?_
  rintro e w' ⟨k, m, k1, k2, k3, k4, k5, k6⟩
  rw [← h2] at k3
  rw [k3]
  exact ⟨k4, h.call k6 ⟨k, k2, rfl, k5⟩⟩
theorem SH.upd {w wr w' : World} {s : ByteArray} {l : List UInt8} {bad : Bool} {E E' : Ev} {ad : Option Addr} {c : Nat} (h : SH w wr s l bad E ad c) (hf : Fr (fun x => x = w.heap.size + 2) wr w') (hb : w'.heap[w.heap.size + 2]? = some (.cells #[.int .i64 E'.op, .int .i64 E'.of_, .string E'.holder, .int .i64 E'.kind, .slice ad E'.secs.length c, .string E'.text] 32 (0, 0))) (hse : E'.secs = E.secs) : SH w w' s l bad E' ad c :=
  ⟨h.rd.of hf (by omega), ⟨hb, by rw [hse]; exact owns_of_block h.ex.own (fun g hg => hf.block g (owns_lt h.ex.own hg).2 (by have := (owns_lt h.ex.own hg).1; omega)), by rw [hse]; exact h.ex.ne⟩, (hf.block _ (by have := h.sz; omega) (by omega)).trans h.ans, h.bel.trans (hf.below (by have := h.sz; omega) (fun i e => by omega))⟩
theorem SH.setOp_ {w wr : World} {s : ByteArray} {l : List UInt8} {bad : Bool} {E : Ev} {ad : Option Addr} {c : Nat} (h : SH w wr s l bad E ad c) (x : Int) : SH w (wr.setCell ⟨w.heap.size + 2, 0, none⟩ (.int .i64 x)) s l bad ⟨x, E.of_, E.holder, E.kind, E.secs, E.text⟩ ad c := h.upd (E' := ⟨x, E.of_, E.holder, E.kind, E.secs, E.text⟩) (fr2 (Fr.refl _ _)) ((box_set h.ex.box _).trans rfl) rfl
theorem SH.setOf {w wr : World} {s : ByteArray} {l : List UInt8} {bad : Bool} {E : Ev} {ad : Option Addr} {c : Nat} (h : SH w wr s l bad E ad c) (x : Int) : SH w (wr.setCell ⟨w.heap.size + 2, 1, none⟩ (.int .i64 x)) s l bad ⟨E.op, x, E.holder, E.kind, E.secs, E.text⟩ ad c := h.upd (E' := ⟨E.op, x, E.holder, E.kind, E.secs, E.text⟩) (fr2 (Fr.refl _ _)) ((box_set h.ex.box _).trans rfl) rfl
theorem SH.setHolder {w wr : World} {s : ByteArray} {l : List UInt8} {bad : Bool} {E : Ev} {ad : Option Addr} {c : Nat} (h : SH w wr s l bad E ad c) (x : ByteArray) : SH w (wr.setCell ⟨w.heap.size + 2, 2, none⟩ (.string x)) s l bad ⟨E.op, E.of_, x, E.kind, E.secs, E.text⟩ ad c := h.upd (E' := ⟨E.op, E.of_, x, E.kind, E.secs, E.text⟩) (fr2 (Fr.refl _ _)) ((box_set h.ex.box _).trans rfl) rfl
theorem SH.setKind {w wr : World} {s : ByteArray} {l : List UInt8} {bad : Bool} {E : Ev} {ad : Option Addr} {c : Nat} (h : SH w wr s l bad E ad c) (x : Int) : SH w (wr.setCell ⟨w.heap.size + 2, 3, none⟩ (.int .i64 x)) s l bad ⟨E.op, E.of_, E.holder, x, E.secs, E.text⟩ ad c := h.upd (E' := ⟨E.op, E.of_, E.holder, x, E.secs, E.text⟩) (fr2 (Fr.refl _ _)) ((box_set h.ex.box _).trans rfl) rfl
theorem SH.setText {w wr : World} {s : ByteArray} {l : List UInt8} {bad : Bool} {E : Ev} {ad : Option Addr} {c : Nat} (h : SH w wr s l bad E ad c) (x : ByteArray) : SH w (wr.setCell ⟨w.heap.size + 2, 5, none⟩ (.string x)) s l bad ⟨E.op, E.of_, E.holder, E.kind, E.secs, x⟩ ad c := h.upd (E' := ⟨E.op, E.of_, E.holder, E.kind, E.secs, x⟩) (fr2 (Fr.refl _ _)) ((box_set h.ex.box _).trans rfl) rfl
theorem SH.push {w wr w' : World} {s : ByteArray} {l : List UInt8} {bad : Bool} {E : Ev} {ad : Option Addr} {c : Nat} (h : SH w wr s l bad E ad c) (L : List Int) (aU : Option Addr) (cU : Nat) (hgr : wr.grownBy w' (Value.slice ad E.secs.length c).ownBlock) (hown : w'.ownsRow (w.heap.size + 3) 3 1 (.slice aU L.length cU) L.length (L.map (Value.int .i64))) (hb : (Value.slice aU L.length cU).ownBlock = (Value.slice ad E.secs.length c).ownBlock ∨ (Value.slice aU L.length cU).ownBlock = some wr.heap.size) :
    SH w (w'.setCell ⟨w.heap.size + 2, 4, none⟩ (.slice aU L.length cU)) s l bad ⟨E.op, E.of_, E.holder, E.kind, L, E.text⟩ aU cU := by
  have f1 : Fr (fun x => (Value.slice ad E.secs.length c).ownBlock = some x) wr w' := ⟨hgr.os, hgr.tape, hgr.output, hgr.size, fun j hj hn => hgr.block j hj (fun e => hn e.symm)⟩
  have hlo : ∀ x, (Value.slice ad E.secs.length c).ownBlock = some x → w.heap.size + 3 ≤ x := fun x hx => (owns_lt h.ex.own hx).1
  have f2 : Fr (fun x => w.heap.size + 2 ≤ x) wr (w'.setCell ⟨w.heap.size + 2, 4, none⟩ (.slice aU L.length cU)) := Fr.setCell (S := fun x => w.heap.size + 2 ≤ x) (f1.mono (fun x e => by have := hlo x e; show w.heap.size + 2 ≤ x; omega)) (p := ⟨w.heap.size + 2, 4, none⟩) (Nat.le_refl _) _
  exact ⟨h.rd.of f2 (by omega), h.ex.push L aU cU hgr hown hb, (f2.block _ (by have := h.sz; omega) (by omega)).trans h.ans, h.bel.trans (f2.below (by have := h.sz; omega) (fun i e => by omega))⟩
theorem SH.facts {w wr : World} {s : ByteArray} {l : List UInt8} {bad : Bool} {E : Ev} {ad : Option Addr} {c : Nat} (h : SH w wr s l bad E ad c) : ∃ a : Nat, (a ≤ s.size ∧ l = (bl s).drop a) ∧ (wr.cell? ⟨w.heap.size + 1, 1, none⟩ = some (.int .i64 (a : Int)) ∧ wr.cell? ⟨w.heap.size + 1, 2, none⟩ = some (.bool bad)) := by
  obtain ⟨a, h1, h2, h3⟩ := h.rd
  obtain ⟨-, q1, q2⟩ := rd_cells h3
  exact ⟨a, ⟨h1, h2⟩, q1, q2⟩
end Go.Proofs.YtdlaekjofgbjcaaGreatDoor