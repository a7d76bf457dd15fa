import Derived.Test.YtdlaekjofgbjcaaGreatDoorDonesZ
import Derived.Test.YtdlaekjofgbjcaaGreatDoorOwnUpZ
import Derived.Test.YtdlaekjofgbjcaaGreatDoorIDoZ
import Derived.Test.YtdlaekjofgbjcaaGreatDoorHearY
import Derived.Test.YtdlaekjofgbjcaaGreatDoorBegin
import Derived.Test.YtdlaekjofgbjcaaGreatDoorBaseZ
import Derived.Test.YtdlaekjofgbjcaaGreatDoorIText2
import Derived.Deep.RegionHeld3
import Derived.Test.YtdlaekjofgbjcaaGreatDoorEvZ
import Derived.Lib.AppendStr
import Derived.Laws.IdiomStrings
/-
 What an event does keeps a book right. Mine, by template (wip/gen.py).
-/
namespace Go.Proofs.YtdlaekjofgbjcaaGreatDoor
open Go.RowKit
theorem right_set {B : Bk} (h : Right B) {i : Nat} (hi : i < B.orders.length) {s : Int} (hs : In s 1 5)
  (hc : OpenP s → (∀ j, j < B.orders.length → j ≠ i → OpenP (bX B j).state → ¬ Meet (bX B j).secs.length (bX B i).secs.length (sV (bX B j)) (sV (bX B i))) ∧ ¬ Marked B.locked (bX B i)) : Right (setState B i s) := by
 obtain ⟨⟨h1, h2, h3, h4⟩, h5, h6, h7⟩ := h; have len := set_len B i s; have at_ : ∀ j, bX (setState B i s) j = if j = i then setSt (bX B i) s else bX B j := fun j => bX_set B i s hi j
 refine ⟨⟨h1, h2, h3, by rw [len]; exact h4⟩, fun j hj => ?_, fun a ha b hb cl => ?_, fun j hj lk => ?_⟩
 ·
  rw [len] at hj; rw [at_ j]; split
  ·
   obtain ⟨o1, o2, o3, _⟩ := h5 i hi; exact ⟨o1, o2, o3, hs⟩
  · exact h5 j hj
 ·
  rw [len] at ha; rw [at_ a, at_ b] at cl
  by_cases ea : a = i
  ·
   rw [if_pos ea, if_neg (by omega)] at cl; obtain ⟨c1, c2, p, q, hp, hq, e⟩ := cl; exact (hc c1).1 b (by omega) (by omega) c2 ⟨q, p, hq, hp, e.symm⟩
  ·
   rw [if_neg ea] at cl
   by_cases eb : b = i
   ·
    rw [if_pos eb] at cl; obtain ⟨c1, c2, p, q, hp, hq, e⟩ := cl; exact (hc c2).1 a ha ea c1 ⟨p, q, hp, hq, e⟩
   ·
    rw [if_neg eb] at cl; exact h6 a ha b hb cl
 ·
  rw [len] at hj; rw [at_ j] at lk
  by_cases ej : j = i
  ·
   rw [if_pos ej] at lk; obtain ⟨l1, q, hq, e⟩ := lk; exact (hc l1).2 ⟨q, hq, e⟩
  ·
   rw [if_neg ej] at lk; exact h7 j hj lk
theorem right_shut {B : Bk} (h : Right B) {i : Nat} (hi : i < B.orders.length) {s : Int} (hs : In s 1 5) (hn : ¬ OpenP s) : Right (setState B i s) := right_set h hi hs (fun q => absurd q hn)
theorem right_open {B : Bk} (h : Right B) {i : Nat} (hi : i < B.orders.length) {s : Int} (hs : In s 1 5) (ho : OpenP (bX B i).state) : Right (setState B i s) :=
 right_set h hi hs (fun _ => ⟨fun j hj ne op m => by
  rcases Nat.lt_or_gt_of_ne ne with l | l
  ·
   obtain ⟨p, q, hp, hq, e⟩ := m; exact h.2.2.1 i hi j l ⟨ho, op, q, p, hq, hp, e.symm⟩
  · exact h.2.2.1 j hj i l ⟨op, ho, m⟩, fun ⟨q, hq, e⟩ => h.2.2.2 i hi ⟨ho, q, hq, e⟩⟩)
theorem getD_set_bool (l : List Bool) (i j : Nat) (r : Bool) : (l.set i r).getD j false = true → (j = i ∧ r = true) ∨ l.getD j false = true := by
 intro h; rw [List.getD_eq_getElem?_getD, List.getElem?_set] at h
 by_cases e : i = j
 ·
  rw [if_pos e] at h
  by_cases q : i < l.length
  ·
   rw [if_pos q] at h; exact Or.inl ⟨e.symm, h⟩
  ·
   rw [if_neg q] at h; cases h
 ·
  rw [if_neg e, ← List.getD_eq_getElem?_getD] at h; exact Or.inr h
theorem right_lock {B : Bk} (h : Right B) (i : Nat) (r : Bool) (hr : r = true → ∀ j, j < B.orders.length → ¬ Has (bX B j) (i : Int)) : Right (setLock B i r) := by
 obtain ⟨⟨h1, h2, h3, h4⟩, h5, h6, h7⟩ := h; refine ⟨⟨h1, by simp [setLock]; exact h2, h3, h4⟩, h5, h6, fun j hj lk => ?_⟩; obtain ⟨l1, q, hq, e⟩ := lk; rcases getD_set_bool _ _ _ _ e with ⟨e1, e2⟩ | e1
 ·
  refine hr e2 j hj ⟨l1, q, hq, ?_⟩; have := ((h5 j hj).2.2.1.1 q hq).1; show sV (bX B j) q = (i : Int)
  have e3 : (sV (bX B j) q).toNat = i := e1; omega
 · exact h7 j hj ⟨l1, q, hq, e1⟩
theorem right_occ {B : Bk} (h : Right B) (i : Nat) (r : Bool) : Right (setOcc B i r) := by
 obtain ⟨⟨h1, h2, h3, h4⟩, h5, h6, h7⟩ := h; exact ⟨⟨h1, h2, by simp [setOcc]; exact h3, h4⟩, h5, h6, h7⟩
theorem right_add {B : Bk} (h : Right B) (x : Ord) (hl : B.orders.length < 200) (hx : OrdOk x B.n) (hn : ¬ OpenP x.state) : Right (addOrd B x) := by
 obtain ⟨⟨h1, h2, h3, h4⟩, h5, h6, h7⟩ := h; have len : (addOrd B x).orders.length = B.orders.length + 1 := by simp [addOrd]
 have at_ : ∀ j, j < B.orders.length + 1 → bX (addOrd B x) j = put1 (bX B) B.orders.length x j := fun j hj => bX_add B x j hj; have new : bX (addOrd B x) B.orders.length = x := by rw [at_ _ (by omega), put1_new]
 have old : ∀ j, j < B.orders.length → bX (addOrd B x) j = bX B j := fun j hj => by rw [at_ j (by omega), put1_old _ _ _ hj]
 refine ⟨⟨h1, h2, h3, by rw [len]; omega⟩, fun j hj => ?_, fun a ha b hb cl => ?_, fun j hj lk => ?_⟩
 ·
  rw [len] at hj
  by_cases e : j = B.orders.length
  ·
   subst e; rw [new]; exact hx
  ·
   rw [old j (by omega)]; exact h5 j (by omega)
 ·
  rw [len] at ha
  by_cases e : a = B.orders.length
  ·
   subst e; rw [new] at cl; exact hn cl.1
  ·
   rw [old a (by omega), old b (by omega)] at cl; exact h6 a (by omega) b hb cl
 ·
  rw [len] at hj
  by_cases e : j = B.orders.length
  ·
   subst e; rw [new] at lk; exact hn lk.1
  ·
   rw [old j (by omega)] at lk; exact h7 j (by omega) lk
theorem right_doP {B : Bk} {E : Ev} (ok : EvOk B E) : Right (doP B E).2 := by
 have h := ok.1; have hin := EvOk.some ok; unfold In at hin; rcases (show E.op = 1 ∨ E.op = 2 ∨ E.op = 3 ∨ E.op = 4 ∨ E.op = 5 ∨ E.op = 6 ∨ E.op = 7 ∨ E.op = 8 ∨ E.op = 9 by omega) with o | o | o | o | o | o | o | o | o
 ·
  rw [doP_write ok o]; obtain ⟨-, q1, q2, q3, -⟩ := ok.at1 o; unfold doWrite; split
  · exact right_add h _ (by assumption) ⟨q1, q2, q3, (show In (1 : Int) 1 5 from ⟨by decide, by decide⟩)⟩ (show ¬ OpenP (1 : Int) by unfold OpenP; decide)
  · exact h
 ·
  rw [doP_give ok o]; have q := (ok.at25 (Or.inl o)).1; unfold In at q; have hi : E.of_.toNat < B.orders.length := by omega
  unfold doGive; split
  ·
   next g =>
   refine right_set h hi ⟨by decide, by decide⟩ (fun _ => ?_); unfold giveC at g
   by_cases c1 : (bX B E.of_.toNat).state ≠ 1
   · rw [if_pos c1] at g; cases g
   rw [if_neg c1] at g
   by_cases c2 : Taken B E.of_.toNat
   · rw [if_pos c2] at g; cases g
   rw [if_neg c2] at g
   by_cases c3 : Marked B.locked (bX B E.of_.toNat)
   · rw [if_pos c3] at g; cases g
   exact ⟨fun j hj _ op m => c2 ⟨j, hj, op, m⟩, c3⟩
  · exact h
 ·
  rw [doP_repeat ok o]; have q := (ok.at3 o).1; unfold In at q; have hi : E.of_.toNat < B.orders.length := by omega
  unfold doRepeat; split
  · exact h
  ·
   next c1 =>
   have c1' : (bX B E.of_.toNat).state = 2 := Classical.not_not.1 c1; split
   · exact h
   ·
    split
    · exact right_shut h hi ⟨by decide, by decide⟩ (by unfold OpenP; decide)
    · exact right_open h hi ⟨by decide, by decide⟩ (Or.inl c1')
 ·
  rw [doP_back ok o]; have q := (ok.at4 o).1; unfold In at q; have hi : E.of_.toNat < B.orders.length := by omega
  unfold doBack; split
  · exact h
  ·
   split
   · exact h
   · exact right_shut h hi ⟨by decide, by decide⟩ (by unfold OpenP; decide)
 ·
  rw [doP_cancel ok o]; have q := (ok.at25 (Or.inr o)).1; unfold In at q; have hi : E.of_.toNat < B.orders.length := by omega
  unfold doCancel; split
  · exact h
  · exact right_shut h hi ⟨by decide, by decide⟩ (by unfold OpenP; decide)
 ·
  rw [doP_lock ok o]; have q := (ok.at6 ⟨by omega, by omega⟩).1; unfold In at q; unfold doLock; split
  · exact h
  ·
   next c1 =>
   refine right_lock h _ _ (fun _ j hj hh => c1 ⟨j, hj, ?_⟩); have e : ((E.of_.toNat : Nat) : Int) = E.of_ := by omega
   rw [e] at hh; exact hh
 · rw [doP_unlock ok o]; exact right_lock h _ _ (fun e => by cases e)
 · rw [doP_occ ok o]; exact right_occ h _ _
 · rw [doP_free ok o]; exact right_occ h _ _
end Go.Proofs.YtdlaekjofgbjcaaGreatDoor
/-
 How an event turns the states of orders; where an order may be given, a section locked. Mine, by template (wip/gen.py).
-/
namespace Go.Proofs.YtdlaekjofgbjcaaGreatDoor
open Go.RowKit
theorem len_doP {B : Bk} {E : Ev} (ok : EvOk B E) : B.orders.length ≤ (doP B E).2.orders.length := by
 have hin := EvOk.some ok; unfold In at hin; rcases (show E.op = 1 ∨ E.op = 2 ∨ E.op = 3 ∨ E.op = 4 ∨ E.op = 5 ∨ E.op = 6 ∨ E.op = 7 ∨ E.op = 8 ∨ E.op = 9 by omega) with o | o | o | o | o | o | o | o | o
 ·
  rw [doP_write ok o]; unfold doWrite; split
  · simp [addOrd]
  · exact Nat.le_refl _
 ·
  rw [doP_give ok o]; unfold doGive; split
  · rw [set_len]; exact Nat.le_refl _
  · exact Nat.le_refl _
 ·
  rw [doP_repeat ok o]; unfold doRepeat; split
  · exact Nat.le_refl _
  ·
   split
   · exact Nat.le_refl _
   · split <;> (rw [set_len]; exact Nat.le_refl _)
 ·
  rw [doP_back ok o]; unfold doBack; split
  · exact Nat.le_refl _
  ·
   split
   · exact Nat.le_refl _
   · rw [set_len]; exact Nat.le_refl _
 ·
  rw [doP_cancel ok o]; unfold doCancel; split
  · exact Nat.le_refl _
  · rw [set_len]; exact Nat.le_refl _
 · rw [doP_lock ok o]; unfold doLock; split <;> exact Nat.le_refl _
 · rw [doP_unlock ok o]; exact Nat.le_refl _
 · rw [doP_occ ok o]; exact Nat.le_refl _
 · rw [doP_free ok o]; exact Nat.le_refl _
end Go.Proofs.YtdlaekjofgbjcaaGreatDoor
/-
 What Answer answers, as bytes: the lines of a text, and what each brings. Mine, by template (wip/gen.py).
-/
namespace Go.Proofs.YtdlaekjofgbjcaaGreatDoor
open Go.RowKit
open Classical in
noncomputable def heardOf (l : List UInt8) : Option Ev := if h : ∃ E, LineOk E ∧ lineT E = l then some h.choose else none
theorem heardOf_yes {l : List UInt8} {E : Ev} (h : LineOk E) (e : lineT E = l) : heardOf l = some E := by
 unfold heardOf; have hx : ∃ E, LineOk E ∧ lineT E = l := ⟨E, h, e⟩; rw [dif_pos hx]; exact congrArg some (lineT_inj hx.choose_spec.1 h (hx.choose_spec.2.trans e.symm))
theorem heardOf_no {l : List UInt8} (h : ∀ E, LineOk E → lineT E ≠ l) : heardOf l = none := by
 unfold heardOf; rw [dif_neg (fun q => by obtain ⟨E, h1, h2⟩ := q; exact h E h1 h2)]
open Classical in
noncomputable def ordText (B : Bk) (i : Int) : List UInt8 := if h : ∃ l, TextIs B i l then h.choose else []
theorem ordText_is {B : Bk} {i : Int} {l : List UInt8} (h : TextIs B i l) : ordText B i = l := by
 unfold ordText; have hx : ∃ l, TextIs B i l := ⟨l, h⟩; rw [dif_pos hx]; exact hx.choose_spec.det h
def whatT : List UInt8 := [119, 104, 97, 116]
noncomputable def bkP (B : Bk) (E : Ev) : Bk := if (doP B E).1 = 1 then B else (doP B E).2
noncomputable def saidP (B : Bk) (E : Ev) : List UInt8 := if (doP B E).1 = 0 ∧ E.op = 2 then ordText (bkP B E) E.of_ else Lib.decDigits (doP B E).1.toNat
noncomputable def replyP (B : Bk) (l : List UInt8) : List UInt8 × Bk := match heardOf l with
 | none => (whatT, B)
 | some E => (saidP B E, bkP B E)
noncomputable def foldP (B : Bk) : List (List UInt8) → List UInt8 × Bk
 | [] => ([], B)
 | l :: ls => ((replyP B l).1 ++ 10 :: (foldP (replyP B l).2 ls).1, (foldP (replyP B l).2 ls).2)
theorem foldP_snoc (B : Bk) (ls : List (List UInt8)) (l : List UInt8) : foldP B (ls ++ [l]) = ((foldP B ls).1 ++ (replyP (foldP B ls).2 l).1 ++ [10], (replyP (foldP B ls).2 l).2) := by
 induction ls generalizing B with
 | nil => simp [foldP]
 | cons x ls ih =>
  simp only [List.cons_append, foldP]; rw [ih]; simp [List.append_assoc]
theorem doP_range (B : Bk) (E : Ev) : 0 ≤ (doP B E).1 ∧ (doP B E).1 ≤ 8 := by
 have g : ∀ i, 0 ≤ giveC B i ∧ giveC B i ≤ 8 := fun i => by
  unfold giveC
  repeat (split; · decide)
  decide
 unfold doP; split
 · exact ⟨by simp, by simp⟩
 split
 ·
  unfold doWrite; split
  · exact ⟨by simp, by simp⟩
  · exact ⟨by simp, by simp⟩
 split
 ·
  unfold doGive; split
  · exact ⟨by simp, by simp⟩
  · exact g _
 split
 ·
  unfold doRepeat; split
  · exact ⟨by simp, by simp⟩
  split
  · exact ⟨by simp, by simp⟩
  split
  · exact ⟨by simp, by simp⟩
  · exact ⟨by simp, by simp⟩
 split
 ·
  unfold doBack; split
  · exact ⟨by simp, by simp⟩
  split
  · exact ⟨by simp, by simp⟩
  · exact ⟨by simp, by simp⟩
 split
 ·
  unfold doCancel; split
  · exact ⟨by simp, by simp⟩
  · exact ⟨by simp, by simp⟩
 split
 ·
  unfold doLock; split
  · exact ⟨by simp, by simp⟩
  · exact ⟨by simp, by simp⟩
 split
 · exact ⟨by simp, by simp⟩
 split
 · exact ⟨by simp, by simp⟩
 · exact ⟨by simp, by simp⟩
theorem ev_of_code {B : Bk} {E : Ev} (h : ¬ (doP B E).1 = 1) : EvOk B E := by
 rcases Classical.em (EvOk B E) with q | q
 · exact q
 · exact absurd (by rw [doP_none q]) h
theorem right_bkP {B : Bk} (h : Right B) (E : Ev) : Right (bkP B E) := by
 unfold bkP; split
 · exact h
 · next h1 => exact right_doP (ev_of_code h1)
theorem right_replyP {B : Bk} (h : Right B) (l : List UInt8) : Right (replyP B l).2 := by
 unfold replyP; split
 · exact h
 · exact right_bkP h _
theorem right_foldP {B : Bk} (h : Right B) (ls : List (List UInt8)) : Right (foldP B ls).2 := by
 induction ls generalizing B with
 | nil => exact h
 | cons l ls ih => exact ih (right_replyP h l)
theorem right_start {m : Int} (h : 1 ≤ m ∧ m ≤ 60) : Right (beginBk m) := by
 unfold beginBk; rw [if_pos h]; exact ⟨⟨h, by simp; omega, by simp; omega, by simp⟩, fun i hi => absurd hi (by simp), fun i hi => absurd hi (by simp), fun i hi => absurd hi (by simp)⟩
theorem give_of {B : Bk} {E : Ev} (h0 : (doP B E).1 = 0) (ho : E.op = 2) : ∃ j : Nat, E.of_ = (j : Int) ∧ j < (doP B E).2.orders.length := by
 have ok : EvOk B E := ev_of_code (by rw [h0]; decide); have h := (ok.at25 (Or.inl ho)).1; have hl := len_doP ok; unfold In at h; exact ⟨E.of_.toNat, by omega, by omega⟩
theorem right_small {B : Bk} (h : Right B) : B.orders.length ≤ 1048576 ∧ ∀ i, i < B.orders.length → (bX B i).secs.length ≤ 1048576 ∧ (bX B i).holder.size ≤ 1048576 := by
 have t := tiny_right h; have n := names_right h; exact ⟨by have := t.o; omega, fun i hi => ⟨by have := t.s i hi; omega, by have := n i hi; omega⟩⟩
theorem line_small {E : Ev} (h : LineOk E) : E.holder.size ≤ 1048576 ∧ E.text.size ≤ 1048576 ∧ E.secs.length ≤ 1048576 := by
 rcases h with q | q
 ·
  have h1 := q.2.2.1.2.2; have h2 := q.2.2.2.2.1.2.2; have h3 := q.2.2.2.2.2; exact ⟨by omega, by omega, by omega⟩
 ·
  have h2 := q.2.2.2.1; have h3 := q.2.2.2.2.2.2.2.1; refine ⟨?_, by omega, by omega⟩
  by_cases c : E.op = 3 ∨ E.op = 4
  ·
   have := (q.2.2.2.2.1 c).2.2; omega
  ·
   have := q.2.2.2.2.2.1 c; omega
/-! ### The lines of a text -/
def linesJ : Nat → List UInt8 → List (List UInt8)
 | 0, _ => []
 | f + 1, l => if l = [] then [] else (if (Lib.cut l [10]).1 = [] then [] else [(Lib.cut l [10]).1]) ++ linesJ f (Lib.cut l [10]).2.1
def linesOf (l : List UInt8) : List (List UInt8) := linesJ l.length l
theorem linesJ_nil (f : Nat) : linesJ f [] = [] := by cases f <;> simp [linesJ]
theorem linesJ_more (f : Nat) : ∀ (g : Nat) (l : List UInt8), l.length ≤ f → l.length ≤ g → linesJ f l = linesJ g l := by
 induction f with
 | zero =>
  intro g l h1 _; obtain rfl : l = [] := List.length_eq_zero_iff.1 (by omega); rw [linesJ_nil, linesJ_nil]
 | succ f ih =>
  intro g l h1 h2
  by_cases h : l = []
  · rw [h, linesJ_nil, linesJ_nil]
  have hp : 0 < l.length := List.length_pos_iff.2 h; obtain ⟨g, rfl⟩ : ∃ k, g = k + 1 := ⟨g - 1, by omega⟩; have := cut_len l 10 [] h; simp only [linesJ]; rw [if_neg h, if_neg h, ih g _ (by omega) (by omega)]
theorem linesOf_nil : linesOf [] = [] := rfl
theorem linesOf_step {l : List UInt8} (h : l ≠ []) : linesOf l = (if (Lib.cut l [10]).1 = [] then [] else [(Lib.cut l [10]).1]) ++ linesOf (Lib.cut l [10]).2.1 := by
 have hp : 0 < l.length := List.length_pos_iff.2 h; have hl := cut_len l 10 [] h; unfold linesOf; obtain ⟨k, hk⟩ : ∃ k, l.length = k + 1 := ⟨l.length - 1, by omega⟩; rw [hk]; simp only [linesJ]; rw [if_neg h, linesJ_more k _ _ (by omega) (Nat.le_refl _)]
theorem linesOf_hit {a r : List UInt8} (h : ∀ b ∈ a, b ≠ 10) : linesOf (a ++ 10 :: r) = (if a = [] then [] else [a]) ++ linesOf r := by
 have e := cut_hit a r 10 [] h; have e' : Lib.cut (a ++ 10 :: r) [10] = (a, r, true) := e; rw [linesOf_step (by simp), e']
theorem linesOf_end {a : List UInt8} (h : ∀ b ∈ a, b ≠ 10) : linesOf a = if a = [] then [] else [a] := by
 by_cases ha : a = []
 · rw [ha, linesOf_nil]; rfl
 have e := cut_miss a 10 [] h; rw [linesOf_step ha, e]; simp [linesOf_nil]
end Go.Proofs.YtdlaekjofgbjcaaGreatDoor
/-
 The contract of impl.reply. Mine, by program (wip/irep.py), by template (wip/gen.py).
-/
namespace Go.Proofs.YtdlaekjofgbjcaaGreatDoor
open Go.RowKit
def put4 (W : World) (R : Nat) (a b c d : Value) : World := (((W.setCell ⟨R, 0, none⟩ a).setCell ⟨R, 1, none⟩ b).setCell ⟨R, 2, none⟩ c).setCell ⟨R, 3, none⟩ d
theorem put4_fr (W : World) (R : Nat) (a b c d : Value) : Fr (fun x => x = R) W (put4 W R a b c d) := fr2 (fr2 (fr2 (fr2 (Fr.refl _ _))))
theorem put4_box {W : World} {R : Nat} {a' b' c' d' : Value} {t : TypeId} (h : W.heap[R]? = some (.cells #[a', b', c', d'] t (0, 0))) (a b c d : Value) : (put4 W R a b c d).heap[R]? = some (.cells #[a, b, c, d] t (0, 0)) :=
 (box_set (box_set (box_set (box_set h _) _) _) _).trans rfl
theorem put4_size (W : World) (R : Nat) (a b c d : Value) : (put4 W R a b c d).heap.size = W.heap.size := by simp [put4]
structure Env (w : World) (A : Nat → Addr) : Prop where
 gl : Gl w
 fw : FWords w
 tab : Lib.TabIs Tryz.prog w "internal/strconv.uint64pow10" .u64 Lib.pow10Tab
 er : Errs w A
 sz : 15 ≤ w.heap.size
theorem Env.below {w w' : World} {A : Nat → Addr} (h : Env w A) (hb : Below w.heap.size w w') : Env w' A :=
 ⟨h.gl.fr (Fr.of_below (S := fun _ => False) hb) (fun _ e => e.elim), h.fw.below hb, tab_below h.tab hb, h.er.below hb, Nat.le_trans h.sz hb.size⟩
def RetRp (e : Ending) (w' : World) (lo : Nat) (x : List UInt8 × Bk) : Prop := ∃ s v K, e = .returned (.tuple #[.string s, v]) ∧ bl s = x.1 ∧ OwnBook w' lo v x.2 K
set_option maxRecDepth 20000 in
set_option maxHeartbeats 8000000 in
theorem reply_any (A : Nat → Addr) (s : ByteArray) (v : Value) (B : Bk) (K : Blk) (lo : Nat) (w : World) (hs : s.size ≤ 1048576) (hE : Env w A) (hR : Right B) (hO : OwnBook w lo v B K) (hlo : lo ≤ w.heap.size) :
  Calls Tryz.prog 49 #[v, .string s] w fun e w' => RetRp e w' lo (replyP B (bl s)) ∧ Below w.heap.size w w' := by
 obtain ⟨ao, co, al, cl, ac, cc, hv, -⟩ := hO.shape; subst hv; have HLB : Hid (∀ b, bookBlocks B K b → b < w.heap.size) := fun b hb => hO.blocks_lt hb; obtain ⟨X, hX⟩ : ∃ X, replyP B (bl s) = X := ⟨_, rfl⟩; rw [hX]; have HX : Hid (replyP B (bl s) = X) := hX; clear hX; obtain ⟨W0, hW0⟩ : ∃ W, W = (w.alloc (.cells #[.int .i64 B.n, .slice ao B.orders.length co, .slice al B.locked.length cl, .slice ac B.occ.length cc] 37)).alloc (.cells #[.int .i64 0, .slice none 0 0, .slice none 0 0, .slice none 0 0] 37) := ⟨_, rfl⟩
 have H0 : Hid (Below w.heap.size w W0 ∧ OwnBook W0 lo (.agg #[.int .i64 B.n, .slice ao B.orders.length co, .slice al B.locked.length cl, .slice ac B.occ.length cc]) B K ∧ Env W0 A ∧ W0.heap[w.heap.size]? = some (.cells #[.int .i64 B.n, .slice ao B.orders.length co, .slice al B.locked.length cl, .slice ac B.occ.length cc] 37 (0, 0)) ∧ W0.heap[w.heap.size + 1]? = some (.cells #[.int .i64 0, .slice none 0 0, .slice none 0 0, .slice none 0 0] 37 (0, 0)) ∧ W0.heap.size = w.heap.size + 2) := by
  rw [hW0]; have b2 := below2 w (.cells #[.int .i64 B.n, .slice ao B.orders.length co, .slice al B.locked.length cl, .slice ac B.occ.length cc] 37) (.cells #[.int .i64 0, .slice none 0 0, .slice none 0 0, .slice none 0 0] 37); refine ⟨b2, hO.below b2, hE.below b2, (Deep.blk_alloc_lt _ _ _ (by simp)).trans (Deep.blk_alloc_new _ _), ?_, by simp⟩; have := Deep.blk_alloc_new (w.alloc (.cells #[.int .i64 B.n, .slice ao B.orders.length co, .slice al B.locked.length cl, .slice ac B.occ.length cc] 37)) (.cells #[.int .i64 0, .slice none 0 0, .slice none 0 0, .slice none 0 0] 37); rw [show (w.alloc (.cells #[.int .i64 B.n, .slice ao B.orders.length co, .slice al B.locked.length cl, .slice ac B.occ.length cc] 37)).heap.size = w.heap.size + 1 by simp] at this; exact this
 have hW0' : (w.alloc (.cells #[.int .i64 B.n, .slice ao B.orders.length co, .slice al B.locked.length cl, .slice ac B.occ.length cc] 37)).alloc (.cells #[.int .i64 0, .slice none 0 0, .slice none 0 0, .slice none 0 0] 37) = W0 := hW0.symm; have HR : Hid (Right B) := hR; have HEnv : Hid (Env w A) := hE; clear hO hE hW0 hR
 go_enter Tryz.func49, Tryz.ntmps49
 go_wp2_with fail
 try rw [hW0']
 clear hW0'; refine (implHear_any s W0 hs H0.out.2.2.1.gl H0.out.2.2.1.fw H0.out.2.2.1.tab H0.out.2.2.1.sz).mono ?_; rintro e w1 ⟨hr1, hb1⟩; have H1 : Hid (Below w.heap.size w w1 ∧ OwnBook w1 lo (.agg #[.int .i64 B.n, .slice ao B.orders.length co, .slice al B.locked.length cl, .slice ac B.occ.length cc]) B K ∧ Env w1 A ∧ w1.heap[w.heap.size]? = some (.cells #[.int .i64 B.n, .slice ao B.orders.length co, .slice al B.locked.length cl, .slice ac B.occ.length cc] 37 (0, 0)) ∧ w1.heap[w.heap.size + 1]? = some (.cells #[.int .i64 0, .slice none 0 0, .slice none 0 0, .slice none 0 0] 37 (0, 0)) ∧ w.heap.size + 2 ≤ w1.heap.size) := ⟨H0.out.1.trans (hb1.mono (by have := H0.out.2.2.2.2.2; omega)), H0.out.2.1.below hb1, H0.out.2.2.1.below hb1, (hb1.block _ (by have := H0.out.2.2.2.2.2; omega)).trans H0.out.2.2.2.1, (hb1.block _ (by have := H0.out.2.2.2.2.2; omega)).trans H0.out.2.2.2.2.1, by have := hb1.size; have := H0.out.2.2.2.2.2; omega⟩; have zW : W0.heap.size = w.heap.size + 2 := H0.out.2.2.2.2.2; clear hb1; have z1 := H1.out.2.2.2.2.2; have za : w.heap.size < w1.heap.size := by omega
 have zb : w.heap.size + 1 < w1.heap.size := by omega
 rcases hr1 with ⟨E, ad, c, hl1, hl2, rfl, hown⟩ | ⟨hno, rfl⟩
 ·
  have HE : Hid (LineOk E ∧ w1.ownsRow W0.heap.size 3 1 (.slice ad E.secs.length c) E.secs.length (E.secs.map (Value.int .i64)) ∧ X = (saidP B E, bkP B E)) := by
   refine ⟨hl1, hown, ?_⟩; rw [← HX.out]; unfold replyP; rw [heardOf_yes hl1 hl2]
  clear hl1 hl2 hown HX H0; obtain ⟨b1, b2, b3⟩ := line_small HE.out.1; obtain ⟨W1, hW1⟩ : ∃ W, W = w1.alloc (.cells #[.bool true, .int .i64 E.op, .int .i64 E.of_, .string E.holder, .int .i64 E.kind, .slice ad E.secs.length c, .string E.text] 46) := ⟨_, rfl⟩
  have H2 : Hid (Below w.heap.size w W1 ∧ OwnBook W1 lo (.agg #[.int .i64 B.n, .slice ao B.orders.length co, .slice al B.locked.length cl, .slice ac B.occ.length cc]) B K ∧ Env W1 A ∧ W1.heap[w.heap.size]? = some (.cells #[.int .i64 B.n, .slice ao B.orders.length co, .slice al B.locked.length cl, .slice ac B.occ.length cc] 37 (0, 0)) ∧ W1.heap[w.heap.size + 1]? = some (.cells #[.int .i64 0, .slice none 0 0, .slice none 0 0, .slice none 0 0] 37 (0, 0)) ∧ W1.heap[w1.heap.size]? = some (.cells #[.bool true, .int .i64 E.op, .int .i64 E.of_, .string E.holder, .int .i64 E.kind, .slice ad E.secs.length c, .string E.text] 46 (0, 0)) ∧ EvAt W1 (.agg #[.int .i64 E.op, .int .i64 E.of_, .string E.holder, .int .i64 E.kind, .slice ad E.secs.length c, .string E.text]) E ∧ w1.heap.size < W1.heap.size) := by
   rw [hW1]; have bb := below1 w1 (.cells #[.bool true, .int .i64 E.op, .int .i64 E.of_, .string E.holder, .int .i64 E.kind, .slice ad E.secs.length c, .string E.text] 46); exact ⟨H1.out.1.trans (bb.mono (by omega)), H1.out.2.1.below bb, H1.out.2.2.1.below bb, (bb.block _ za).trans H1.out.2.2.2.1, (bb.block _ zb).trans H1.out.2.2.2.2.1, Deep.blk_alloc_new _ _, (evW_at ⟨_, rfl, HE.out.2.1⟩).below bb, by simp⟩
  have hW1' : w1.alloc (.cells #[.bool true, .int .i64 E.op, .int .i64 E.of_, .string E.holder, .int .i64 E.kind, .slice ad E.secs.length c, .string E.text] 46) = W1 := hW1.symm; clear hW1; have p0 : W1.cell? ⟨w.heap.size, 0, none⟩ = some _ := cell_of_box H2.out.2.2.2.1 rfl; have p1 : W1.cell? ⟨w.heap.size, 1, none⟩ = some _ := cell_of_box H2.out.2.2.2.1 rfl; have p2 : W1.cell? ⟨w.heap.size, 2, none⟩ = some _ := cell_of_box H2.out.2.2.2.1 rfl; have p3 : W1.cell? ⟨w.heap.size, 3, none⟩ = some _ := cell_of_box H2.out.2.2.2.1 rfl; have q0 : W1.cell? ⟨w1.heap.size, 0, none⟩ = some _ := cell_of_box H2.out.2.2.2.2.2.1 rfl; have q1 : W1.cell? ⟨w1.heap.size, 1, none⟩ = some _ := cell_of_box H2.out.2.2.2.2.2.1 rfl; have q2 : W1.cell? ⟨w1.heap.size, 2, none⟩ = some _ := cell_of_box H2.out.2.2.2.2.2.1 rfl; have q3 : W1.cell? ⟨w1.heap.size, 3, none⟩ = some _ := cell_of_box H2.out.2.2.2.2.2.1 rfl; have q4 : W1.cell? ⟨w1.heap.size, 4, none⟩ = some _ := cell_of_box H2.out.2.2.2.2.2.1 rfl; have q5 : W1.cell? ⟨w1.heap.size, 5, none⟩ = some _ := cell_of_box H2.out.2.2.2.2.2.1 rfl; have q6 : W1.cell? ⟨w1.heap.size, 6, none⟩ = some _ := cell_of_box H2.out.2.2.2.2.2.1 rfl; have zW1 : w1.heap.size < W1.heap.size := H2.out.2.2.2.2.2.2.2; have HBh : Hid (Calls Tryz.prog 26 #[(.agg #[.int .i64 B.n, .slice ao B.orders.length co, .slice al B.locked.length cl, .slice ac B.occ.length cc]), (.agg #[.int .i64 E.op, .int .i64 E.of_, .string E.holder, .int .i64 E.kind, .slice ad E.secs.length c, .string E.text])] W1 fun e w' => RetB2 A e W1 w' B E) := behind_any A _ _ B E W1 H2.out.2.2.1.er H2.out.2.2.1.tab (right_small HR.out) b1 b2 b3 H2.out.2.1.bookAt H2.out.2.2.2.2.2.2.1; clear b1 b2 b3
  go_wp2_with fail
  try rw [hW1']
  clear hW1'; refine HBh.out.mono ?_; rintro e w2 ⟨o, v7, K7', rfl, hok, hcode, hO7, hb7⟩; obtain ⟨a7, c7, l7, d7, o7, f7, hv7, -⟩ := hO7.shape; subst hv7; have z2 : W1.heap.size ≤ w2.heap.size := hb7.size; have H3 : Hid (Below w.heap.size w w2 ∧ OwnBook w2 lo (.agg #[.int .i64 B.n, .slice ao B.orders.length co, .slice al B.locked.length cl, .slice ac B.occ.length cc]) B K ∧ Env w2 A ∧ w2.heap[w.heap.size]? = some (.cells #[.int .i64 B.n, .slice ao B.orders.length co, .slice al B.locked.length cl, .slice ac B.occ.length cc] 37 (0, 0)) ∧ w2.heap[w.heap.size + 1]? = some (.cells #[.int .i64 0, .slice none 0 0, .slice none 0 0, .slice none 0 0] 37 (0, 0)) ∧ w2.heap[w1.heap.size]? = some (.cells #[.bool true, .int .i64 E.op, .int .i64 E.of_, .string E.holder, .int .i64 E.kind, .slice ad E.secs.length c, .string E.text] 46 (0, 0)) ∧ OwnBook w2 lo (.agg #[.int .i64 (doP B E).2.n, .slice a7 (doP B E).2.orders.length c7, .slice l7 (doP B E).2.locked.length d7, .slice o7 (doP B E).2.occ.length f7]) (doP B E).2 K7') := ⟨H2.out.1.trans (hb7.mono (by omega)), H2.out.2.1.below hb7, H2.out.2.2.1.below hb7, (hb7.block _ (by omega)).trans H2.out.2.2.2.1, (hb7.block _ (by omega)).trans H2.out.2.2.2.2.1, (hb7.block _ (by omega)).trans H2.out.2.2.2.2.2.1, hO7.mono (by omega)⟩; have HOK : Hid (ErrOk o) := hok; have HL7x : ∀ b, bookBlocks (doP B E).2 K7' b → ¬ b = w.heap.size + 1 := fun b hb e => by have := hO7.blocks_low hb; omega
  have HCd : Hid (codeN o = (doP B E).1) := hcode; clear hok hcode hO7 hb7 HBh p0 p1 p2 p3 q0 q1 q2 q3 q4 q5 q6 H2; obtain ⟨n, hn⟩ : ∃ n : Nat, (doP B E).1 = (n : Int) ∧ n ≤ 8 := ⟨(doP B E).1.toNat, by have := doP_range B E; omega, by have := doP_range B E; omega⟩; have HCn : Hid (codeN o = (n : Int)) := HCd.out.trans hn.1; have HL7 : Hid (∀ b, bookBlocks (doP B E).2 K7' b → ¬ b = w.heap.size + 1) := HL7x; obtain ⟨W2, hW2⟩ : ∃ W, W = w2.alloc (.cells #[.int .i64 (doP B E).2.n, .slice a7 (doP B E).2.orders.length c7, .slice l7 (doP B E).2.locked.length d7, .slice o7 (doP B E).2.occ.length f7] 37) := ⟨_, rfl⟩
  have H4 : Hid (Below w.heap.size w W2 ∧ Env W2 A ∧ W2.heap[w.heap.size + 1]? = some (.cells #[.int .i64 0, .slice none 0 0, .slice none 0 0, .slice none 0 0] 37 (0, 0)) ∧ W2.heap[w2.heap.size]? = some (.cells #[.int .i64 (doP B E).2.n, .slice a7 (doP B E).2.orders.length c7, .slice l7 (doP B E).2.locked.length d7, .slice o7 (doP B E).2.occ.length f7] 37 (0, 0)) ∧ W2.heap[w1.heap.size]? = some (.cells #[.bool true, .int .i64 E.op, .int .i64 E.of_, .string E.holder, .int .i64 E.kind, .slice ad E.secs.length c, .string E.text] 46 (0, 0)) ∧ OwnBook W2 lo (.agg #[.int .i64 (doP B E).2.n, .slice a7 (doP B E).2.orders.length c7, .slice l7 (doP B E).2.locked.length d7, .slice o7 (doP B E).2.occ.length f7]) (doP B E).2 K7') := by
   rw [hW2]; have bb := below1 w2 (.cells #[.int .i64 (doP B E).2.n, .slice a7 (doP B E).2.orders.length c7, .slice l7 (doP B E).2.locked.length d7, .slice o7 (doP B E).2.occ.length f7] 37); exact ⟨H3.out.1.trans (bb.mono (by omega)), H3.out.2.2.1.below bb, (bb.block _ (by omega)).trans H3.out.2.2.2.2.1, Deep.blk_alloc_new _ _, (bb.block _ (by omega)).trans H3.out.2.2.2.2.2.1, H3.out.2.2.2.2.2.2.below bb⟩
  have H4b : Hid (W2.heap[w.heap.size]? = some (.cells #[.int .i64 B.n, .slice ao B.orders.length co, .slice al B.locked.length cl, .slice ac B.occ.length cc] 37 (0, 0)) ∧ OwnBook W2 lo (.agg #[.int .i64 B.n, .slice ao B.orders.length co, .slice al B.locked.length cl, .slice ac B.occ.length cc]) B K) := by
   rw [hW2]; have bb := below1 w2 (.cells #[.int .i64 (doP B E).2.n, .slice a7 (doP B E).2.orders.length c7, .slice l7 (doP B E).2.locked.length d7, .slice o7 (doP B E).2.occ.length f7] 37); exact ⟨(bb.block _ (by omega)).trans H3.out.2.2.2.1, H3.out.2.1.below bb⟩
  have hW2' : w2.alloc (.cells #[.int .i64 (doP B E).2.n, .slice a7 (doP B E).2.orders.length c7, .slice l7 (doP B E).2.locked.length d7, .slice o7 (doP B E).2.occ.length f7] 37) = W2 := hW2.symm; have v0 : W2.cell? ⟨0, 0, none⟩ = some (errV A 0) := H4.out.2.1.er.v 0 (by omega); have v0' : w2.cell? ⟨0, 0, none⟩ = some (errV A 0) := H3.out.2.2.1.er.v 0 (by omega); have zs2 : ¬ (⟨w2.heap.size, 0, none⟩ : Addr).block = w.heap.size + 1 := by show ¬ w2.heap.size = w.heap.size + 1; omega
  have zs1 : ¬ (⟨w1.heap.size, 0, none⟩ : Addr).block = w.heap.size + 1 := by show ¬ w1.heap.size = w.heap.size + 1; omega
  clear hW2; cases o with
  | none =>
   have hn0 : n = 0 := by have h := HCn.out; simp only [codeN] at h; omega
   subst hn0
   have HBK : Hid (bkP B E = (doP B E).2) := by
    show bkP B E = _
    unfold bkP; rw [if_neg (by rw [hn.1]; decide)]
   rw [show errO A none = Value.nilIface from rfl]
   go_wp2_with fail
   try rw [hW2']
   clear hW2'; refine (is_any A none 0 false W2 H4.out.2.1.er (by omega) (fun k e => by cases e) rfl).mono ?_; rintro e w6 ⟨rfl, hw6⟩; obtain rfl := hw6.symm; have H5 : Hid (Below w.heap.size w W2 ∧ Env W2 A ∧ W2.heap[w.heap.size + 1]? = some (.cells #[.int .i64 0, .slice none 0 0, .slice none 0 0, .slice none 0 0] 37 (0, 0)) ∧ W2.heap[w2.heap.size]? = some (.cells #[.int .i64 (doP B E).2.n, .slice a7 (doP B E).2.orders.length c7, .slice l7 (doP B E).2.locked.length d7, .slice o7 (doP B E).2.occ.length f7] 37 (0, 0)) ∧ W2.heap[w1.heap.size]? = some (.cells #[.bool true, .int .i64 E.op, .int .i64 E.of_, .string E.holder, .int .i64 E.kind, .slice ad E.secs.length c, .string E.text] 46 (0, 0)) ∧ OwnBook W2 lo (.agg #[.int .i64 (doP B E).2.n, .slice a7 (doP B E).2.orders.length c7, .slice l7 (doP B E).2.locked.length d7, .slice o7 (doP B E).2.occ.length f7]) (bkP B E) K7') := ⟨H4.out.1, H4.out.2.1, H4.out.2.2.1, H4.out.2.2.2.1, H4.out.2.2.2.2.1, by rw [HBK.out]; exact H4.out.2.2.2.2.2⟩
   have HLQ : Hid (∀ b, bookBlocks (bkP B E) K7' b → ¬ b = w.heap.size + 1) := by
    show ∀ b, _
    rw [HBK.out]; exact HL7.out
   by_cases ho : E.op = 2
   ·
    have t2 : (E.op == 2) = true := by rw [ho]; rfl
    have HC2 : Hid ((doP B E).1 = 0 ∧ E.op = 2) := ⟨hn.1, ho⟩; have e0 : W2.cell? ⟨w.heap.size + 1, 0, none⟩ = some (.int .i64 0) := cell_of_box H5.out.2.2.1 rfl; have e1 : W2.cell? ⟨w.heap.size + 1, 1, none⟩ = some (.slice none 0 0) := cell_of_box H5.out.2.2.1 rfl; have e2 : W2.cell? ⟨w.heap.size + 1, 2, none⟩ = some (.slice none 0 0) := cell_of_box H5.out.2.2.1 rfl; have e3 : W2.cell? ⟨w.heap.size + 1, 3, none⟩ = some (.slice none 0 0) := cell_of_box H5.out.2.2.1 rfl; have g0 : W2.frozen? ⟨w.heap.size + 1, 0, none⟩ = false := frozen_of_box H5.out.2.2.1; have g1 : W2.frozen? ⟨w.heap.size + 1, 1, none⟩ = false := frozen_of_box H5.out.2.2.1; have g2 : W2.frozen? ⟨w.heap.size + 1, 2, none⟩ = false := frozen_of_box H5.out.2.2.1; have g3 : W2.frozen? ⟨w.heap.size + 1, 3, none⟩ = false := frozen_of_box H5.out.2.2.1; have s0 : W2.cell? ⟨w2.heap.size, 0, none⟩ = some (.int .i64 (doP B E).2.n) := cell_of_box H5.out.2.2.2.1 rfl; have s1 : W2.cell? ⟨w2.heap.size, 1, none⟩ = some (.slice a7 (doP B E).2.orders.length c7) := cell_of_box H5.out.2.2.2.1 rfl; have s2 : W2.cell? ⟨w2.heap.size, 2, none⟩ = some (.slice l7 (doP B E).2.locked.length d7) := cell_of_box H5.out.2.2.2.1 rfl; have s3 : W2.cell? ⟨w2.heap.size, 3, none⟩ = some (.slice o7 (doP B E).2.occ.length f7) := cell_of_box H5.out.2.2.2.1 rfl; have h0 : W2.cell? ⟨w1.heap.size, 0, none⟩ = some (.bool true) := cell_of_box H5.out.2.2.2.2.1 rfl; have h1 : W2.cell? ⟨w1.heap.size, 1, none⟩ = some (.int .i64 E.op) := cell_of_box H5.out.2.2.2.2.1 rfl; have h2 : W2.cell? ⟨w1.heap.size, 2, none⟩ = some (.int .i64 E.of_) := cell_of_box H5.out.2.2.2.2.1 rfl; have h3 : W2.cell? ⟨w1.heap.size, 3, none⟩ = some (.string E.holder) := cell_of_box H5.out.2.2.2.2.1 rfl; have h4 : W2.cell? ⟨w1.heap.size, 4, none⟩ = some (.int .i64 E.kind) := cell_of_box H5.out.2.2.2.2.1 rfl; have h5 : W2.cell? ⟨w1.heap.size, 5, none⟩ = some (.slice ad E.secs.length c) := cell_of_box H5.out.2.2.2.2.1 rfl; have h6 : W2.cell? ⟨w1.heap.size, 6, none⟩ = some (.string E.text) := cell_of_box H5.out.2.2.2.2.1 rfl; have zx0 : w.heap.size + 1 < W2.heap.size := (Array.getElem?_eq_some_iff.1 H5.out.2.2.1).1; have zx1 : w2.heap.size < W2.heap.size := (Array.getElem?_eq_some_iff.1 H5.out.2.2.2.1).1; go_wp2; refine wp_region_held_drew (S := (fun w' => w'.cell? ⟨w2.heap.size, 0, none⟩ = some (.int .i64 (doP B E).2.n) ∧ w'.cell? ⟨w2.heap.size, 1, none⟩ = some (.slice a7 (doP B E).2.orders.length c7) ∧ w'.cell? ⟨w2.heap.size, 2, none⟩ = some (.slice l7 (doP B E).2.locked.length d7) ∧ w'.cell? ⟨w2.heap.size, 3, none⟩ = some (.slice o7 (doP B E).2.occ.length f7) ∧ w'.cell? ⟨w1.heap.size, 2, none⟩ = some (.int .i64 E.of_))) (by kernel_rfl) ⟨s0, s1, s2, s3, h2⟩ (fun hS0 => ?_); have HD : Hid (Below w.heap.size w W2.drew ∧ Env W2.drew A ∧ W2.drew.heap[w.heap.size + 1]? = some (.cells #[.int .i64 0, .slice none 0 0, .slice none 0 0, .slice none 0 0] 37 (0, 0)) ∧ W2.drew.heap[w2.heap.size]? = some (.cells #[.int .i64 (doP B E).2.n, .slice a7 (doP B E).2.orders.length c7, .slice l7 (doP B E).2.locked.length d7, .slice o7 (doP B E).2.occ.length f7] 37 (0, 0)) ∧ W2.drew.heap[w1.heap.size]? = some (.cells #[.bool true, .int .i64 E.op, .int .i64 E.of_, .string E.holder, .int .i64 E.kind, .slice ad E.secs.length c, .string E.text] 46 (0, 0)) ∧ OwnBook W2.drew lo (.agg #[.int .i64 (doP B E).2.n, .slice a7 (doP B E).2.orders.length c7, .slice l7 (doP B E).2.locked.length d7, .slice o7 (doP B E).2.occ.length f7]) (bkP B E) K7') := ⟨H5.out.1.trans (((Below.refl _ _).drew).mono H5.out.1.size), H5.out.2.1.below (Below.refl _ _).drew, H5.out.2.2.1, H5.out.2.2.2.1, H5.out.2.2.2.2.1, H5.out.2.2.2.2.2.below (Below.refl _ _).drew⟩; refine tk 0 rfl ?_; refine tk 1 rfl ?_; refine tk 2 rfl ?_; refine tk 3 rfl ?_; refine tk 5 rfl ?_; clear e0 g0 s0 e1 g1 s1 e2 g2 s2 e3 g3 s3 h0 h1 h2 h3 h4 h5 h6 zx0 zx1; refine rdy1 4 rfl (fun Kx hK => ?_); go_simp; refine (implOrderText_any _ (bkP B E) E.of_ _ (right_small (right_bkP HR.out E)).1 (right_small (right_bkP HR.out E)).2 HD.out.2.1.tab HD.out.2.2.2.2.2.bookAt).mono ?_
    rintro e w9 ⟨⟨t9, rfl, ht9⟩, hb9⟩
    have HSd : Hid (saidP B E = bl t9) := by
     show saidP B E = _
     unfold saidP; rw [if_pos HC2.out]; exact ordText_is ht9
    have H9 : Hid (Below w.heap.size w w9 ∧ Env w9 A ∧ w9.heap[w.heap.size + 1]? = some (.cells #[.int .i64 0, .slice none 0 0, .slice none 0 0, .slice none 0 0] 37 (0, 0)) ∧ w9.heap[w2.heap.size]? = some (.cells #[.int .i64 (doP B E).2.n, .slice a7 (doP B E).2.orders.length c7, .slice l7 (doP B E).2.locked.length d7, .slice o7 (doP B E).2.occ.length f7] 37 (0, 0)) ∧ w9.heap[w1.heap.size]? = some (.cells #[.bool true, .int .i64 E.op, .int .i64 E.of_, .string E.holder, .int .i64 E.kind, .slice ad E.secs.length c, .string E.text] 46 (0, 0)) ∧ OwnBook w9 lo (.agg #[.int .i64 (doP B E).2.n, .slice a7 (doP B E).2.orders.length c7, .slice l7 (doP B E).2.locked.length d7, .slice o7 (doP B E).2.occ.length f7]) (bkP B E) K7') := ⟨HD.out.1.trans (hb9.mono HD.out.1.size), HD.out.2.1.below hb9, (hb9.block _ (Array.getElem?_eq_some_iff.1 HD.out.2.2.1).1).trans HD.out.2.2.1, (hb9.block _ (Array.getElem?_eq_some_iff.1 HD.out.2.2.2.1).1).trans HD.out.2.2.2.1, (hb9.block _ (Array.getElem?_eq_some_iff.1 HD.out.2.2.2.2.1).1).trans HD.out.2.2.2.2.1, HD.out.2.2.2.2.2.below hb9⟩; clear ht9 hb9; have e0 : w9.cell? ⟨w.heap.size + 1, 0, none⟩ = some (.int .i64 0) := cell_of_box H9.out.2.2.1 rfl; have e1 : w9.cell? ⟨w.heap.size + 1, 1, none⟩ = some (.slice none 0 0) := cell_of_box H9.out.2.2.1 rfl; have e2 : w9.cell? ⟨w.heap.size + 1, 2, none⟩ = some (.slice none 0 0) := cell_of_box H9.out.2.2.1 rfl; have e3 : w9.cell? ⟨w.heap.size + 1, 3, none⟩ = some (.slice none 0 0) := cell_of_box H9.out.2.2.1 rfl; have g0 : w9.frozen? ⟨w.heap.size + 1, 0, none⟩ = false := frozen_of_box H9.out.2.2.1; have g1 : w9.frozen? ⟨w.heap.size + 1, 1, none⟩ = false := frozen_of_box H9.out.2.2.1; have g2 : w9.frozen? ⟨w.heap.size + 1, 2, none⟩ = false := frozen_of_box H9.out.2.2.1; have g3 : w9.frozen? ⟨w.heap.size + 1, 3, none⟩ = false := frozen_of_box H9.out.2.2.1; have s0 : w9.cell? ⟨w2.heap.size, 0, none⟩ = some (.int .i64 (doP B E).2.n) := cell_of_box H9.out.2.2.2.1 rfl; have s1 : w9.cell? ⟨w2.heap.size, 1, none⟩ = some (.slice a7 (doP B E).2.orders.length c7) := cell_of_box H9.out.2.2.2.1 rfl; have s2 : w9.cell? ⟨w2.heap.size, 2, none⟩ = some (.slice l7 (doP B E).2.locked.length d7) := cell_of_box H9.out.2.2.2.1 rfl; have s3 : w9.cell? ⟨w2.heap.size, 3, none⟩ = some (.slice o7 (doP B E).2.occ.length f7) := cell_of_box H9.out.2.2.2.1 rfl; have h0 : w9.cell? ⟨w1.heap.size, 0, none⟩ = some (.bool true) := cell_of_box H9.out.2.2.2.2.1 rfl; have h1 : w9.cell? ⟨w1.heap.size, 1, none⟩ = some (.int .i64 E.op) := cell_of_box H9.out.2.2.2.2.1 rfl; have h2 : w9.cell? ⟨w1.heap.size, 2, none⟩ = some (.int .i64 E.of_) := cell_of_box H9.out.2.2.2.2.1 rfl; have h3 : w9.cell? ⟨w1.heap.size, 3, none⟩ = some (.string E.holder) := cell_of_box H9.out.2.2.2.2.1 rfl; have h4 : w9.cell? ⟨w1.heap.size, 4, none⟩ = some (.int .i64 E.kind) := cell_of_box H9.out.2.2.2.2.1 rfl; have h5 : w9.cell? ⟨w1.heap.size, 5, none⟩ = some (.slice ad E.secs.length c) := cell_of_box H9.out.2.2.2.2.1 rfl; have h6 : w9.cell? ⟨w1.heap.size, 6, none⟩ = some (.string E.text) := cell_of_box H9.out.2.2.2.2.1 rfl; have zx0 : w.heap.size + 1 < w9.heap.size := (Array.getElem?_eq_some_iff.1 H9.out.2.2.1).1; have zx1 : w2.heap.size < w9.heap.size := (Array.getElem?_eq_some_iff.1 H9.out.2.2.2.1).1; refine hK.out _ _ ⟨s0, s1, s2, s3, h2⟩ (fun hS1 => ?_); clear hK Kx hS1; obtain ⟨Z, hZ⟩ : ∃ Z, Z = put4 w9 (w.heap.size + 1) (.int .i64 (doP B E).2.n) (.slice a7 (doP B E).2.orders.length c7) (.slice l7 (doP B E).2.locked.length d7) (.slice o7 (doP B E).2.occ.length f7) := ⟨_, rfl⟩; have hZ' : ((((w9.setCell ⟨w.heap.size + 1, 0, none⟩ (.int .i64 (doP B E).2.n)).setCell ⟨w.heap.size + 1, 1, none⟩ (.slice a7 (doP B E).2.orders.length c7)).setCell ⟨w.heap.size + 1, 2, none⟩ (.slice l7 (doP B E).2.locked.length d7)).setCell ⟨w.heap.size + 1, 3, none⟩ (.slice o7 (doP B E).2.occ.length f7)) = Z := hZ.symm
    have HZ : Hid (Z.heap[w.heap.size + 1]? = some (.cells #[.int .i64 (doP B E).2.n, .slice a7 (doP B E).2.orders.length c7, .slice l7 (doP B E).2.locked.length d7, .slice o7 (doP B E).2.occ.length f7] 37 (0, 0)) ∧ OwnBook Z lo (.agg #[.int .i64 (doP B E).2.n, .slice a7 (doP B E).2.orders.length c7, .slice l7 (doP B E).2.locked.length d7, .slice o7 (doP B E).2.occ.length f7]) (bkP B E) K7' ∧ Below w.heap.size w Z ∧ Fr (fun x => x = w.heap.size + 1) w9 Z) := by
     rw [hZ]; have p4 := put4_box H9.out.2.2.1 (.int .i64 (doP B E).2.n) (.slice a7 (doP B E).2.orders.length c7) (.slice l7 (doP B E).2.locked.length d7) (.slice o7 (doP B E).2.occ.length f7); have f4 := put4_fr w9 (w.heap.size + 1) (.int .i64 (doP B E).2.n) (.slice a7 (doP B E).2.orders.length c7) (.slice l7 (doP B E).2.locked.length d7) (.slice o7 (doP B E).2.occ.length f7); exact ⟨p4, H9.out.2.2.2.2.2.fr f4 (fun b hb e => HLQ.out b hb e), H9.out.1.trans (f4.below (B := w.heap.size) (by omega) (fun i e => by omega)), f4⟩
    clear hZ; refine rdy1 6 rfl (fun Kx hK => ?_); go_simp; refine hK.out _ _ ⟨s0, s1, s2, s3, h2⟩ (fun hS1 => ?_); clear hK Kx hS1; refine rdy1 7 rfl (fun Kx hK => ?_); go_simp
    try rw [hZ']
    have HSZ : Hid (Fr (fun x => x = w.heap.size + 1) w9 Z) := HZ.out.2.2.2; refine hK.out _ _ ⟨(cell_fr s0 HSZ.out zs2), (cell_fr s1 HSZ.out zs2), (cell_fr s2 HSZ.out zs2), (cell_fr s3 HSZ.out zs2), (cell_fr h2 HSZ.out zs1)⟩ (fun hS1 => ?_); clear hK Kx hS1; refine wpAnyH_done (by kernel_rfl) ?_ _; go_simp; clear e0 g0 s0 e1 g1 s1 e2 g2 s2 e3 g3 s3 h0 h1 h2 h3 h4 h5 h6 zx0 zx1; clear hZ'; go_wp2; have e0 : Z.cell? ⟨w.heap.size + 1, 0, none⟩ = some _ := cell_of_box HZ.out.1 rfl; have e1 : Z.cell? ⟨w.heap.size + 1, 1, none⟩ = some _ := cell_of_box HZ.out.1 rfl; have e2 : Z.cell? ⟨w.heap.size + 1, 2, none⟩ = some _ := cell_of_box HZ.out.1 rfl; have e3 : Z.cell? ⟨w.heap.size + 1, 3, none⟩ = some _ := cell_of_box HZ.out.1 rfl; refine bodyPost_ret (v := .tuple #[.string t9, (.agg #[.int .i64 (doP B E).2.n, .slice a7 (doP B E).2.orders.length c7, .slice l7 (doP B E).2.locked.length d7, .slice o7 (doP B E).2.occ.length f7])]) (by simp [results, Tryz.results49, go_sem, e0, e1, e2, e3]) rfl ?_; exact ⟨⟨_, _, K7', rfl, by rw [HE.out.2.2]; exact HSd.out.symm, by rw [HE.out.2.2]; exact HZ.out.2.1⟩, HZ.out.2.2.1⟩
   ·
    have t2 : (E.op == 2) = false := beq_eq_false_iff_ne.2 ho
    have HSd : Hid (saidP B E = Lib.decDigits 0) := by
     show saidP B E = _
     unfold saidP; rw [if_neg (fun q => ho q.2), hn.1]; rfl
    obtain ⟨n, hnn⟩ : ∃ n : Nat, n = 0 := ⟨0, rfl⟩; rw [← hnn] at HSd HCn; have hn9 : n ≤ 9223372036854775807 := by omega
    clear hnn; have e0 : W2.cell? ⟨w.heap.size + 1, 0, none⟩ = some (.int .i64 0) := cell_of_box H5.out.2.2.1 rfl; have e1 : W2.cell? ⟨w.heap.size + 1, 1, none⟩ = some (.slice none 0 0) := cell_of_box H5.out.2.2.1 rfl; have e2 : W2.cell? ⟨w.heap.size + 1, 2, none⟩ = some (.slice none 0 0) := cell_of_box H5.out.2.2.1 rfl; have e3 : W2.cell? ⟨w.heap.size + 1, 3, none⟩ = some (.slice none 0 0) := cell_of_box H5.out.2.2.1 rfl; have g0 : W2.frozen? ⟨w.heap.size + 1, 0, none⟩ = false := frozen_of_box H5.out.2.2.1; have g1 : W2.frozen? ⟨w.heap.size + 1, 1, none⟩ = false := frozen_of_box H5.out.2.2.1; have g2 : W2.frozen? ⟨w.heap.size + 1, 2, none⟩ = false := frozen_of_box H5.out.2.2.1; have g3 : W2.frozen? ⟨w.heap.size + 1, 3, none⟩ = false := frozen_of_box H5.out.2.2.1; have s0 : W2.cell? ⟨w2.heap.size, 0, none⟩ = some (.int .i64 (doP B E).2.n) := cell_of_box H5.out.2.2.2.1 rfl; have s1 : W2.cell? ⟨w2.heap.size, 1, none⟩ = some (.slice a7 (doP B E).2.orders.length c7) := cell_of_box H5.out.2.2.2.1 rfl; have s2 : W2.cell? ⟨w2.heap.size, 2, none⟩ = some (.slice l7 (doP B E).2.locked.length d7) := cell_of_box H5.out.2.2.2.1 rfl; have s3 : W2.cell? ⟨w2.heap.size, 3, none⟩ = some (.slice o7 (doP B E).2.occ.length f7) := cell_of_box H5.out.2.2.2.1 rfl; have h0 : W2.cell? ⟨w1.heap.size, 0, none⟩ = some (.bool true) := cell_of_box H5.out.2.2.2.2.1 rfl; have h1 : W2.cell? ⟨w1.heap.size, 1, none⟩ = some (.int .i64 E.op) := cell_of_box H5.out.2.2.2.2.1 rfl; have h2 : W2.cell? ⟨w1.heap.size, 2, none⟩ = some (.int .i64 E.of_) := cell_of_box H5.out.2.2.2.2.1 rfl; have h3 : W2.cell? ⟨w1.heap.size, 3, none⟩ = some (.string E.holder) := cell_of_box H5.out.2.2.2.2.1 rfl; have h4 : W2.cell? ⟨w1.heap.size, 4, none⟩ = some (.int .i64 E.kind) := cell_of_box H5.out.2.2.2.2.1 rfl; have h5 : W2.cell? ⟨w1.heap.size, 5, none⟩ = some (.slice ad E.secs.length c) := cell_of_box H5.out.2.2.2.2.1 rfl; have h6 : W2.cell? ⟨w1.heap.size, 6, none⟩ = some (.string E.text) := cell_of_box H5.out.2.2.2.2.1 rfl; have zx0 : w.heap.size + 1 < W2.heap.size := (Array.getElem?_eq_some_iff.1 H5.out.2.2.1).1; have zx1 : w2.heap.size < W2.heap.size := (Array.getElem?_eq_some_iff.1 H5.out.2.2.2.1).1; go_wp2; refine wp_region_held_drew (S := (fun w' => w'.cell? ⟨w2.heap.size, 0, none⟩ = some (.int .i64 (doP B E).2.n) ∧ w'.cell? ⟨w2.heap.size, 1, none⟩ = some (.slice a7 (doP B E).2.orders.length c7) ∧ w'.cell? ⟨w2.heap.size, 2, none⟩ = some (.slice l7 (doP B E).2.locked.length d7) ∧ w'.cell? ⟨w2.heap.size, 3, none⟩ = some (.slice o7 (doP B E).2.occ.length f7))) (by kernel_rfl) ⟨s0, s1, s2, s3⟩ (fun hS0 => ?_); have HD : Hid (Below w.heap.size w W2.drew ∧ Env W2.drew A ∧ W2.drew.heap[w.heap.size + 1]? = some (.cells #[.int .i64 0, .slice none 0 0, .slice none 0 0, .slice none 0 0] 37 (0, 0)) ∧ W2.drew.heap[w2.heap.size]? = some (.cells #[.int .i64 (doP B E).2.n, .slice a7 (doP B E).2.orders.length c7, .slice l7 (doP B E).2.locked.length d7, .slice o7 (doP B E).2.occ.length f7] 37 (0, 0)) ∧ W2.drew.heap[w1.heap.size]? = some (.cells #[.bool true, .int .i64 E.op, .int .i64 E.of_, .string E.holder, .int .i64 E.kind, .slice ad E.secs.length c, .string E.text] 46 (0, 0)) ∧ OwnBook W2.drew lo (.agg #[.int .i64 (doP B E).2.n, .slice a7 (doP B E).2.orders.length c7, .slice l7 (doP B E).2.locked.length d7, .slice o7 (doP B E).2.occ.length f7]) (bkP B E) K7') := ⟨H5.out.1.trans (((Below.refl _ _).drew).mono H5.out.1.size), H5.out.2.1.below (Below.refl _ _).drew, H5.out.2.2.1, H5.out.2.2.2.1, H5.out.2.2.2.2.1, H5.out.2.2.2.2.2.below (Below.refl _ _).drew⟩; refine tk 0 rfl ?_; refine tk 3 rfl ?_; clear e0 g0 s0 e1 g1 s1 e2 g2 s2 e3 g3 s3 h0 h1 h2 h3 h4 h5 h6 zx0 zx1; refine rdy1 1 rfl (fun Kx hK => ?_); go_simp; have HC9 := codeOf_at A none (W2.drew) HD.out.2.1.er HOK.out; rw [HCn.out] at HC9; refine HC9.mono ?_; rintro e w8 ⟨rfl, hw8⟩; obtain rfl := hw8.symm; clear HC9; refine hK.out _ _ hS0 (fun hS1 => ?_); clear hK Kx hS1; refine rdy1 2 rfl (fun Kx hK => ?_); go_simp; refine (itoa_any n _ hn9 HD.out.2.1.tab).mono ?_
    rintro e w9 ⟨⟨t9, rfl, ht9⟩, hb9⟩; have HT9 : Hid (bl t9 = Lib.decDigits n) := ht9; have H9 : Hid (Below w.heap.size w w9 ∧ Env w9 A ∧ w9.heap[w.heap.size + 1]? = some (.cells #[.int .i64 0, .slice none 0 0, .slice none 0 0, .slice none 0 0] 37 (0, 0)) ∧ w9.heap[w2.heap.size]? = some (.cells #[.int .i64 (doP B E).2.n, .slice a7 (doP B E).2.orders.length c7, .slice l7 (doP B E).2.locked.length d7, .slice o7 (doP B E).2.occ.length f7] 37 (0, 0)) ∧ w9.heap[w1.heap.size]? = some (.cells #[.bool true, .int .i64 E.op, .int .i64 E.of_, .string E.holder, .int .i64 E.kind, .slice ad E.secs.length c, .string E.text] 46 (0, 0)) ∧ OwnBook w9 lo (.agg #[.int .i64 (doP B E).2.n, .slice a7 (doP B E).2.orders.length c7, .slice l7 (doP B E).2.locked.length d7, .slice o7 (doP B E).2.occ.length f7]) (bkP B E) K7') := ⟨HD.out.1.trans (hb9.mono HD.out.1.size), HD.out.2.1.below hb9, (hb9.block _ (Array.getElem?_eq_some_iff.1 HD.out.2.2.1).1).trans HD.out.2.2.1, (hb9.block _ (Array.getElem?_eq_some_iff.1 HD.out.2.2.2.1).1).trans HD.out.2.2.2.1, (hb9.block _ (Array.getElem?_eq_some_iff.1 HD.out.2.2.2.2.1).1).trans HD.out.2.2.2.2.1, HD.out.2.2.2.2.2.below hb9⟩; clear ht9 hb9; have e0 : w9.cell? ⟨w.heap.size + 1, 0, none⟩ = some (.int .i64 0) := cell_of_box H9.out.2.2.1 rfl; have e1 : w9.cell? ⟨w.heap.size + 1, 1, none⟩ = some (.slice none 0 0) := cell_of_box H9.out.2.2.1 rfl; have e2 : w9.cell? ⟨w.heap.size + 1, 2, none⟩ = some (.slice none 0 0) := cell_of_box H9.out.2.2.1 rfl; have e3 : w9.cell? ⟨w.heap.size + 1, 3, none⟩ = some (.slice none 0 0) := cell_of_box H9.out.2.2.1 rfl; have g0 : w9.frozen? ⟨w.heap.size + 1, 0, none⟩ = false := frozen_of_box H9.out.2.2.1; have g1 : w9.frozen? ⟨w.heap.size + 1, 1, none⟩ = false := frozen_of_box H9.out.2.2.1; have g2 : w9.frozen? ⟨w.heap.size + 1, 2, none⟩ = false := frozen_of_box H9.out.2.2.1; have g3 : w9.frozen? ⟨w.heap.size + 1, 3, none⟩ = false := frozen_of_box H9.out.2.2.1; have s0 : w9.cell? ⟨w2.heap.size, 0, none⟩ = some (.int .i64 (doP B E).2.n) := cell_of_box H9.out.2.2.2.1 rfl; have s1 : w9.cell? ⟨w2.heap.size, 1, none⟩ = some (.slice a7 (doP B E).2.orders.length c7) := cell_of_box H9.out.2.2.2.1 rfl; have s2 : w9.cell? ⟨w2.heap.size, 2, none⟩ = some (.slice l7 (doP B E).2.locked.length d7) := cell_of_box H9.out.2.2.2.1 rfl; have s3 : w9.cell? ⟨w2.heap.size, 3, none⟩ = some (.slice o7 (doP B E).2.occ.length f7) := cell_of_box H9.out.2.2.2.1 rfl; have h0 : w9.cell? ⟨w1.heap.size, 0, none⟩ = some (.bool true) := cell_of_box H9.out.2.2.2.2.1 rfl; have h1 : w9.cell? ⟨w1.heap.size, 1, none⟩ = some (.int .i64 E.op) := cell_of_box H9.out.2.2.2.2.1 rfl; have h2 : w9.cell? ⟨w1.heap.size, 2, none⟩ = some (.int .i64 E.of_) := cell_of_box H9.out.2.2.2.2.1 rfl; have h3 : w9.cell? ⟨w1.heap.size, 3, none⟩ = some (.string E.holder) := cell_of_box H9.out.2.2.2.2.1 rfl; have h4 : w9.cell? ⟨w1.heap.size, 4, none⟩ = some (.int .i64 E.kind) := cell_of_box H9.out.2.2.2.2.1 rfl; have h5 : w9.cell? ⟨w1.heap.size, 5, none⟩ = some (.slice ad E.secs.length c) := cell_of_box H9.out.2.2.2.2.1 rfl; have h6 : w9.cell? ⟨w1.heap.size, 6, none⟩ = some (.string E.text) := cell_of_box H9.out.2.2.2.2.1 rfl; have zx0 : w.heap.size + 1 < w9.heap.size := (Array.getElem?_eq_some_iff.1 H9.out.2.2.1).1; have zx1 : w2.heap.size < w9.heap.size := (Array.getElem?_eq_some_iff.1 H9.out.2.2.2.1).1; refine hK.out _ _ ⟨s0, s1, s2, s3⟩ (fun hS1 => ?_); clear hK Kx hS1; obtain ⟨Z, hZ⟩ : ∃ Z, Z = put4 w9 (w.heap.size + 1) (.int .i64 (doP B E).2.n) (.slice a7 (doP B E).2.orders.length c7) (.slice l7 (doP B E).2.locked.length d7) (.slice o7 (doP B E).2.occ.length f7) := ⟨_, rfl⟩; have hZ' : ((((w9.setCell ⟨w.heap.size + 1, 0, none⟩ (.int .i64 (doP B E).2.n)).setCell ⟨w.heap.size + 1, 1, none⟩ (.slice a7 (doP B E).2.orders.length c7)).setCell ⟨w.heap.size + 1, 2, none⟩ (.slice l7 (doP B E).2.locked.length d7)).setCell ⟨w.heap.size + 1, 3, none⟩ (.slice o7 (doP B E).2.occ.length f7)) = Z := hZ.symm
    have HZ : Hid (Z.heap[w.heap.size + 1]? = some (.cells #[.int .i64 (doP B E).2.n, .slice a7 (doP B E).2.orders.length c7, .slice l7 (doP B E).2.locked.length d7, .slice o7 (doP B E).2.occ.length f7] 37 (0, 0)) ∧ OwnBook Z lo (.agg #[.int .i64 (doP B E).2.n, .slice a7 (doP B E).2.orders.length c7, .slice l7 (doP B E).2.locked.length d7, .slice o7 (doP B E).2.occ.length f7]) (bkP B E) K7' ∧ Below w.heap.size w Z ∧ Fr (fun x => x = w.heap.size + 1) w9 Z) := by
     rw [hZ]; have p4 := put4_box H9.out.2.2.1 (.int .i64 (doP B E).2.n) (.slice a7 (doP B E).2.orders.length c7) (.slice l7 (doP B E).2.locked.length d7) (.slice o7 (doP B E).2.occ.length f7); have f4 := put4_fr w9 (w.heap.size + 1) (.int .i64 (doP B E).2.n) (.slice a7 (doP B E).2.orders.length c7) (.slice l7 (doP B E).2.locked.length d7) (.slice o7 (doP B E).2.occ.length f7); exact ⟨p4, H9.out.2.2.2.2.2.fr f4 (fun b hb e => HLQ.out b hb e), H9.out.1.trans (f4.below (B := w.heap.size) (by omega) (fun i e => by omega)), f4⟩
    clear hZ; refine rdy1 4 rfl (fun Kx hK => ?_); go_simp; refine hK.out _ _ ⟨s0, s1, s2, s3⟩ (fun hS1 => ?_); clear hK Kx hS1; refine rdy1 5 rfl (fun Kx hK => ?_); go_simp
    try rw [hZ']
    have HSZ : Hid (Fr (fun x => x = w.heap.size + 1) w9 Z) := HZ.out.2.2.2; refine hK.out _ _ ⟨(cell_fr s0 HSZ.out zs2), (cell_fr s1 HSZ.out zs2), (cell_fr s2 HSZ.out zs2), (cell_fr s3 HSZ.out zs2)⟩ (fun hS1 => ?_); clear hK Kx hS1; refine wpAnyH_done (by kernel_rfl) ?_ _; go_simp; clear e0 g0 s0 e1 g1 s1 e2 g2 s2 e3 g3 s3 h0 h1 h2 h3 h4 h5 h6 zx0 zx1; clear hZ'; go_wp2; have e0 : Z.cell? ⟨w.heap.size + 1, 0, none⟩ = some _ := cell_of_box HZ.out.1 rfl; have e1 : Z.cell? ⟨w.heap.size + 1, 1, none⟩ = some _ := cell_of_box HZ.out.1 rfl; have e2 : Z.cell? ⟨w.heap.size + 1, 2, none⟩ = some _ := cell_of_box HZ.out.1 rfl; have e3 : Z.cell? ⟨w.heap.size + 1, 3, none⟩ = some _ := cell_of_box HZ.out.1 rfl; refine bodyPost_ret (v := .tuple #[.string t9, (.agg #[.int .i64 (doP B E).2.n, .slice a7 (doP B E).2.orders.length c7, .slice l7 (doP B E).2.locked.length d7, .slice o7 (doP B E).2.occ.length f7])]) (by simp [results, Tryz.results49, go_sem, e0, e1, e2, e3]) rfl ?_; exact ⟨⟨_, _, K7', rfl, by rw [HE.out.2.2]; exact HT9.out.trans HSd.out.symm, by rw [HE.out.2.2]; exact HZ.out.2.1⟩, HZ.out.2.2.1⟩
  | some k =>
   have hn9 : n ≤ 9223372036854775807 := by omega
   rw [show errO A (some k) = Value.iface 208 (.pointer (some (A k))) from rfl]
   have HSd : Hid (saidP B E = Lib.decDigits n) := by
    show saidP B E = _
    unfold saidP
    have h0 : ¬ ((doP B E).1 = 0 ∧ E.op = 2) := fun q => by
     have h := HCd.out; rw [q.1] at h; rcases HOK.out with e | e | e | e | e | e | e | e | e
     · cases e
     all_goals (cases e; cases h)
    rw [if_neg h0, hn.1]; rfl
   by_cases hk : k = 0
   ·
    subst hk
    have HBK : Hid (bkP B E = B) := by
     show bkP B E = _
     unfold bkP; have h1 : (doP B E).1 = 1 := HCd.out.symm; rw [if_pos h1]
    go_wp2_with fail
    try rw [hW2']
    clear hW2'; refine (is_any A (some 0) 0 true W2 H4.out.2.1.er (by omega) (fun k e => by cases e; omega) (by simp)).mono ?_; rintro e w6 ⟨rfl, hw6⟩; obtain rfl := hw6.symm; have b0 : W2.cell? ⟨w.heap.size, 0, none⟩ = some (.int .i64 B.n) := cell_of_box H4b.out.1 rfl; have b1 : W2.cell? ⟨w.heap.size, 1, none⟩ = some (.slice ao B.orders.length co) := cell_of_box H4b.out.1 rfl; have b2 : W2.cell? ⟨w.heap.size, 2, none⟩ = some (.slice al B.locked.length cl) := cell_of_box H4b.out.1 rfl; have b3 : W2.cell? ⟨w.heap.size, 3, none⟩ = some (.slice ac B.occ.length cc) := cell_of_box H4b.out.1 rfl; have s0 : W2.cell? ⟨w2.heap.size, 0, none⟩ = some (.int .i64 (doP B E).2.n) := cell_of_box H4.out.2.2.2.1 rfl; have s1 : W2.cell? ⟨w2.heap.size, 1, none⟩ = some (.slice a7 (doP B E).2.orders.length c7) := cell_of_box H4.out.2.2.2.1 rfl; have s2 : W2.cell? ⟨w2.heap.size, 2, none⟩ = some (.slice l7 (doP B E).2.locked.length d7) := cell_of_box H4.out.2.2.2.1 rfl; have s3 : W2.cell? ⟨w2.heap.size, 3, none⟩ = some (.slice o7 (doP B E).2.occ.length f7) := cell_of_box H4.out.2.2.2.1 rfl; have t0 : W2.frozen? ⟨w2.heap.size, 0, none⟩ = false := frozen_of_box H4.out.2.2.2.1; have t1 : W2.frozen? ⟨w2.heap.size, 1, none⟩ = false := frozen_of_box H4.out.2.2.2.1; have t2 : W2.frozen? ⟨w2.heap.size, 2, none⟩ = false := frozen_of_box H4.out.2.2.2.1; have t3 : W2.frozen? ⟨w2.heap.size, 3, none⟩ = false := frozen_of_box H4.out.2.2.2.1; obtain ⟨W3, hW3⟩ : ∃ W, W = put4 W2 w2.heap.size (.int .i64 B.n) (.slice ao B.orders.length co) (.slice al B.locked.length cl) (.slice ac B.occ.length cc) := ⟨_, rfl⟩; have hW3' : ((((W2.setCell ⟨w2.heap.size, 0, none⟩ (.int .i64 B.n)).setCell ⟨w2.heap.size, 1, none⟩ (.slice ao B.orders.length co)).setCell ⟨w2.heap.size, 2, none⟩ (.slice al B.locked.length cl)).setCell ⟨w2.heap.size, 3, none⟩ (.slice ac B.occ.length cc)) = W3 := hW3.symm; have zz2 : w2.heap.size < W2.heap.size := (Array.getElem?_eq_some_iff.1 H4.out.2.2.2.1).1
    have H5 : Hid (Below w.heap.size w W3 ∧ Env W3 A ∧ W3.heap[w.heap.size + 1]? = some (.cells #[.int .i64 0, .slice none 0 0, .slice none 0 0, .slice none 0 0] 37 (0, 0)) ∧ W3.heap[w2.heap.size]? = some (.cells #[.int .i64 B.n, .slice ao B.orders.length co, .slice al B.locked.length cl, .slice ac B.occ.length cc] 37 (0, 0)) ∧ W3.heap[w1.heap.size]? = some (.cells #[.bool true, .int .i64 E.op, .int .i64 E.of_, .string E.holder, .int .i64 E.kind, .slice ad E.secs.length c, .string E.text] 46 (0, 0)) ∧ OwnBook W3 lo (.agg #[.int .i64 B.n, .slice ao B.orders.length co, .slice al B.locked.length cl, .slice ac B.occ.length cc]) (bkP B E) K) := by
     rw [hW3]; have p4 := put4_box H4.out.2.2.2.1 (.int .i64 B.n) (.slice ao B.orders.length co) (.slice al B.locked.length cl) (.slice ac B.occ.length cc); have f4 := put4_fr W2 w2.heap.size (.int .i64 B.n) (.slice ao B.orders.length co) (.slice al B.locked.length cl) (.slice ac B.occ.length cc); have bw : Below w.heap.size w (put4 W2 w2.heap.size (.int .i64 B.n) (.slice ao B.orders.length co) (.slice al B.locked.length cl) (.slice ac B.occ.length cc)) := H4.out.1.trans (f4.below (B := w.heap.size) (by omega) (fun i e => by omega)); refine ⟨bw, ?_, (f4.block _ (by omega) (by omega)).trans H4.out.2.2.1, p4, (f4.block _ (by omega) (by omega)).trans H4.out.2.2.2.2.1, ?_⟩
     · exact HEnv.out.below bw
     ·
      rw [HBK.out]; exact H4b.out.2.fr f4 (fun b hb e => by have := HLB.out b hb; omega)
    have HLQ : Hid (∀ b, bookBlocks (bkP B E) K b → ¬ b = w.heap.size + 1) := by
     show ∀ b, _
     rw [HBK.out]; exact fun b hb e => by have := HLB.out b hb; omega
    clear hW3; have h0 : W3.cell? ⟨w1.heap.size, 0, none⟩ = some (.bool true) := cell_of_box H5.out.2.2.2.2.1 rfl; have h1 : W3.cell? ⟨w1.heap.size, 1, none⟩ = some (.int .i64 E.op) := cell_of_box H5.out.2.2.2.2.1 rfl; have h2 : W3.cell? ⟨w1.heap.size, 2, none⟩ = some (.int .i64 E.of_) := cell_of_box H5.out.2.2.2.2.1 rfl; have h3 : W3.cell? ⟨w1.heap.size, 3, none⟩ = some (.string E.holder) := cell_of_box H5.out.2.2.2.2.1 rfl; have h4 : W3.cell? ⟨w1.heap.size, 4, none⟩ = some (.int .i64 E.kind) := cell_of_box H5.out.2.2.2.2.1 rfl; have h5 : W3.cell? ⟨w1.heap.size, 5, none⟩ = some (.slice ad E.secs.length c) := cell_of_box H5.out.2.2.2.2.1 rfl; have h6 : W3.cell? ⟨w1.heap.size, 6, none⟩ = some (.string E.text) := cell_of_box H5.out.2.2.2.2.1 rfl
    go_upto_region 9 with (fail)
    try rw [hW3']
    clear hW3' b0 b1 b2 b3 s0 s1 s2 s3 t0 t1 t2 t3 zz2 h0 h1 h2 h3 h4 h5 h6; have e0 : W3.cell? ⟨w.heap.size + 1, 0, none⟩ = some (.int .i64 0) := cell_of_box H5.out.2.2.1 rfl; have e1 : W3.cell? ⟨w.heap.size + 1, 1, none⟩ = some (.slice none 0 0) := cell_of_box H5.out.2.2.1 rfl; have e2 : W3.cell? ⟨w.heap.size + 1, 2, none⟩ = some (.slice none 0 0) := cell_of_box H5.out.2.2.1 rfl; have e3 : W3.cell? ⟨w.heap.size + 1, 3, none⟩ = some (.slice none 0 0) := cell_of_box H5.out.2.2.1 rfl; have g0 : W3.frozen? ⟨w.heap.size + 1, 0, none⟩ = false := frozen_of_box H5.out.2.2.1; have g1 : W3.frozen? ⟨w.heap.size + 1, 1, none⟩ = false := frozen_of_box H5.out.2.2.1; have g2 : W3.frozen? ⟨w.heap.size + 1, 2, none⟩ = false := frozen_of_box H5.out.2.2.1; have g3 : W3.frozen? ⟨w.heap.size + 1, 3, none⟩ = false := frozen_of_box H5.out.2.2.1; have s0 : W3.cell? ⟨w2.heap.size, 0, none⟩ = some (.int .i64 B.n) := cell_of_box H5.out.2.2.2.1 rfl; have s1 : W3.cell? ⟨w2.heap.size, 1, none⟩ = some (.slice ao B.orders.length co) := cell_of_box H5.out.2.2.2.1 rfl; have s2 : W3.cell? ⟨w2.heap.size, 2, none⟩ = some (.slice al B.locked.length cl) := cell_of_box H5.out.2.2.2.1 rfl; have s3 : W3.cell? ⟨w2.heap.size, 3, none⟩ = some (.slice ac B.occ.length cc) := cell_of_box H5.out.2.2.2.1 rfl; have h0 : W3.cell? ⟨w1.heap.size, 0, none⟩ = some (.bool true) := cell_of_box H5.out.2.2.2.2.1 rfl; have h1 : W3.cell? ⟨w1.heap.size, 1, none⟩ = some (.int .i64 E.op) := cell_of_box H5.out.2.2.2.2.1 rfl; have h2 : W3.cell? ⟨w1.heap.size, 2, none⟩ = some (.int .i64 E.of_) := cell_of_box H5.out.2.2.2.2.1 rfl; have h3 : W3.cell? ⟨w1.heap.size, 3, none⟩ = some (.string E.holder) := cell_of_box H5.out.2.2.2.2.1 rfl; have h4 : W3.cell? ⟨w1.heap.size, 4, none⟩ = some (.int .i64 E.kind) := cell_of_box H5.out.2.2.2.2.1 rfl; have h5 : W3.cell? ⟨w1.heap.size, 5, none⟩ = some (.slice ad E.secs.length c) := cell_of_box H5.out.2.2.2.2.1 rfl; have h6 : W3.cell? ⟨w1.heap.size, 6, none⟩ = some (.string E.text) := cell_of_box H5.out.2.2.2.2.1 rfl; have zx0 : w.heap.size + 1 < W3.heap.size := (Array.getElem?_eq_some_iff.1 H5.out.2.2.1).1; have zx1 : w2.heap.size < W3.heap.size := (Array.getElem?_eq_some_iff.1 H5.out.2.2.2.1).1; go_wp2; refine wp_region_held_drew (S := (fun w' => w'.cell? ⟨w2.heap.size, 0, none⟩ = some (.int .i64 B.n) ∧ w'.cell? ⟨w2.heap.size, 1, none⟩ = some (.slice ao B.orders.length co) ∧ w'.cell? ⟨w2.heap.size, 2, none⟩ = some (.slice al B.locked.length cl) ∧ w'.cell? ⟨w2.heap.size, 3, none⟩ = some (.slice ac B.occ.length cc))) (by kernel_rfl) ⟨s0, s1, s2, s3⟩ (fun hS0 => ?_); have HD : Hid (Below w.heap.size w W3.drew ∧ Env W3.drew A ∧ W3.drew.heap[w.heap.size + 1]? = some (.cells #[.int .i64 0, .slice none 0 0, .slice none 0 0, .slice none 0 0] 37 (0, 0)) ∧ W3.drew.heap[w2.heap.size]? = some (.cells #[.int .i64 B.n, .slice ao B.orders.length co, .slice al B.locked.length cl, .slice ac B.occ.length cc] 37 (0, 0)) ∧ W3.drew.heap[w1.heap.size]? = some (.cells #[.bool true, .int .i64 E.op, .int .i64 E.of_, .string E.holder, .int .i64 E.kind, .slice ad E.secs.length c, .string E.text] 46 (0, 0)) ∧ OwnBook W3.drew lo (.agg #[.int .i64 B.n, .slice ao B.orders.length co, .slice al B.locked.length cl, .slice ac B.occ.length cc]) (bkP B E) K) := ⟨H5.out.1.trans (((Below.refl _ _).drew).mono H5.out.1.size), H5.out.2.1.below (Below.refl _ _).drew, H5.out.2.2.1, H5.out.2.2.2.1, H5.out.2.2.2.2.1, H5.out.2.2.2.2.2.below (Below.refl _ _).drew⟩; refine tk 0 rfl ?_; refine tk 3 rfl ?_; clear e0 g0 s0 e1 g1 s1 e2 g2 s2 e3 g3 s3 h0 h1 h2 h3 h4 h5 h6 zx0 zx1; refine rdy1 1 rfl (fun Kx hK => ?_); go_simp; have HC9 := codeOf_at A (some 0) (W3.drew) HD.out.2.1.er HOK.out; rw [HCn.out] at HC9; refine HC9.mono ?_; rintro e w8 ⟨rfl, hw8⟩; obtain rfl := hw8.symm; clear HC9; refine hK.out _ _ hS0 (fun hS1 => ?_); clear hK Kx hS1; refine rdy1 2 rfl (fun Kx hK => ?_); go_simp; refine (itoa_any n _ hn9 HD.out.2.1.tab).mono ?_; rintro e w9 ⟨⟨t9, rfl, ht9⟩, hb9⟩; have HT9 : Hid (bl t9 = Lib.decDigits n) := ht9
    have H9 : Hid (Below w.heap.size w w9 ∧ Env w9 A ∧ w9.heap[w.heap.size + 1]? = some (.cells #[.int .i64 0, .slice none 0 0, .slice none 0 0, .slice none 0 0] 37 (0, 0)) ∧ w9.heap[w2.heap.size]? = some (.cells #[.int .i64 B.n, .slice ao B.orders.length co, .slice al B.locked.length cl, .slice ac B.occ.length cc] 37 (0, 0)) ∧ w9.heap[w1.heap.size]? = some (.cells #[.bool true, .int .i64 E.op, .int .i64 E.of_, .string E.holder, .int .i64 E.kind, .slice ad E.secs.length c, .string E.text] 46 (0, 0)) ∧ OwnBook w9 lo (.agg #[.int .i64 B.n, .slice ao B.orders.length co, .slice al B.locked.length cl, .slice ac B.occ.length cc]) (bkP B E) K) := ⟨HD.out.1.trans (hb9.mono HD.out.1.size), HD.out.2.1.below hb9, (hb9.block _ (Array.getElem?_eq_some_iff.1 HD.out.2.2.1).1).trans HD.out.2.2.1, (hb9.block _ (Array.getElem?_eq_some_iff.1 HD.out.2.2.2.1).1).trans HD.out.2.2.2.1, (hb9.block _ (Array.getElem?_eq_some_iff.1 HD.out.2.2.2.2.1).1).trans HD.out.2.2.2.2.1, HD.out.2.2.2.2.2.below hb9⟩; clear ht9 hb9; have e0 : w9.cell? ⟨w.heap.size + 1, 0, none⟩ = some (.int .i64 0) := cell_of_box H9.out.2.2.1 rfl; have e1 : w9.cell? ⟨w.heap.size + 1, 1, none⟩ = some (.slice none 0 0) := cell_of_box H9.out.2.2.1 rfl; have e2 : w9.cell? ⟨w.heap.size + 1, 2, none⟩ = some (.slice none 0 0) := cell_of_box H9.out.2.2.1 rfl; have e3 : w9.cell? ⟨w.heap.size + 1, 3, none⟩ = some (.slice none 0 0) := cell_of_box H9.out.2.2.1 rfl; have g0 : w9.frozen? ⟨w.heap.size + 1, 0, none⟩ = false := frozen_of_box H9.out.2.2.1; have g1 : w9.frozen? ⟨w.heap.size + 1, 1, none⟩ = false := frozen_of_box H9.out.2.2.1; have g2 : w9.frozen? ⟨w.heap.size + 1, 2, none⟩ = false := frozen_of_box H9.out.2.2.1; have g3 : w9.frozen? ⟨w.heap.size + 1, 3, none⟩ = false := frozen_of_box H9.out.2.2.1; have s0 : w9.cell? ⟨w2.heap.size, 0, none⟩ = some (.int .i64 B.n) := cell_of_box H9.out.2.2.2.1 rfl; have s1 : w9.cell? ⟨w2.heap.size, 1, none⟩ = some (.slice ao B.orders.length co) := cell_of_box H9.out.2.2.2.1 rfl; have s2 : w9.cell? ⟨w2.heap.size, 2, none⟩ = some (.slice al B.locked.length cl) := cell_of_box H9.out.2.2.2.1 rfl; have s3 : w9.cell? ⟨w2.heap.size, 3, none⟩ = some (.slice ac B.occ.length cc) := cell_of_box H9.out.2.2.2.1 rfl; have h0 : w9.cell? ⟨w1.heap.size, 0, none⟩ = some (.bool true) := cell_of_box H9.out.2.2.2.2.1 rfl; have h1 : w9.cell? ⟨w1.heap.size, 1, none⟩ = some (.int .i64 E.op) := cell_of_box H9.out.2.2.2.2.1 rfl; have h2 : w9.cell? ⟨w1.heap.size, 2, none⟩ = some (.int .i64 E.of_) := cell_of_box H9.out.2.2.2.2.1 rfl; have h3 : w9.cell? ⟨w1.heap.size, 3, none⟩ = some (.string E.holder) := cell_of_box H9.out.2.2.2.2.1 rfl; have h4 : w9.cell? ⟨w1.heap.size, 4, none⟩ = some (.int .i64 E.kind) := cell_of_box H9.out.2.2.2.2.1 rfl; have h5 : w9.cell? ⟨w1.heap.size, 5, none⟩ = some (.slice ad E.secs.length c) := cell_of_box H9.out.2.2.2.2.1 rfl; have h6 : w9.cell? ⟨w1.heap.size, 6, none⟩ = some (.string E.text) := cell_of_box H9.out.2.2.2.2.1 rfl; have zx0 : w.heap.size + 1 < w9.heap.size := (Array.getElem?_eq_some_iff.1 H9.out.2.2.1).1; have zx1 : w2.heap.size < w9.heap.size := (Array.getElem?_eq_some_iff.1 H9.out.2.2.2.1).1; refine hK.out _ _ ⟨s0, s1, s2, s3⟩ (fun hS1 => ?_); clear hK Kx hS1; obtain ⟨Z, hZ⟩ : ∃ Z, Z = put4 w9 (w.heap.size + 1) (.int .i64 B.n) (.slice ao B.orders.length co) (.slice al B.locked.length cl) (.slice ac B.occ.length cc) := ⟨_, rfl⟩; have hZ' : ((((w9.setCell ⟨w.heap.size + 1, 0, none⟩ (.int .i64 B.n)).setCell ⟨w.heap.size + 1, 1, none⟩ (.slice ao B.orders.length co)).setCell ⟨w.heap.size + 1, 2, none⟩ (.slice al B.locked.length cl)).setCell ⟨w.heap.size + 1, 3, none⟩ (.slice ac B.occ.length cc)) = Z := hZ.symm
    have HZ : Hid (Z.heap[w.heap.size + 1]? = some (.cells #[.int .i64 B.n, .slice ao B.orders.length co, .slice al B.locked.length cl, .slice ac B.occ.length cc] 37 (0, 0)) ∧ OwnBook Z lo (.agg #[.int .i64 B.n, .slice ao B.orders.length co, .slice al B.locked.length cl, .slice ac B.occ.length cc]) (bkP B E) K ∧ Below w.heap.size w Z ∧ Fr (fun x => x = w.heap.size + 1) w9 Z) := by
     rw [hZ]; have p4 := put4_box H9.out.2.2.1 (.int .i64 B.n) (.slice ao B.orders.length co) (.slice al B.locked.length cl) (.slice ac B.occ.length cc); have f4 := put4_fr w9 (w.heap.size + 1) (.int .i64 B.n) (.slice ao B.orders.length co) (.slice al B.locked.length cl) (.slice ac B.occ.length cc); exact ⟨p4, H9.out.2.2.2.2.2.fr f4 (fun b hb e => HLQ.out b hb e), H9.out.1.trans (f4.below (B := w.heap.size) (by omega) (fun i e => by omega)), f4⟩
    clear hZ; refine rdy1 4 rfl (fun Kx hK => ?_); go_simp; refine hK.out _ _ ⟨s0, s1, s2, s3⟩ (fun hS1 => ?_); clear hK Kx hS1; refine rdy1 5 rfl (fun Kx hK => ?_); go_simp
    try rw [hZ']
    have HSZ : Hid (Fr (fun x => x = w.heap.size + 1) w9 Z) := HZ.out.2.2.2; refine hK.out _ _ ⟨(cell_fr s0 HSZ.out zs2), (cell_fr s1 HSZ.out zs2), (cell_fr s2 HSZ.out zs2), (cell_fr s3 HSZ.out zs2)⟩ (fun hS1 => ?_); clear hK Kx hS1; refine wpAnyH_done (by kernel_rfl) ?_ _; go_simp; clear e0 g0 s0 e1 g1 s1 e2 g2 s2 e3 g3 s3 h0 h1 h2 h3 h4 h5 h6 zx0 zx1; clear hZ'; go_wp2; have e0 : Z.cell? ⟨w.heap.size + 1, 0, none⟩ = some _ := cell_of_box HZ.out.1 rfl; have e1 : Z.cell? ⟨w.heap.size + 1, 1, none⟩ = some _ := cell_of_box HZ.out.1 rfl; have e2 : Z.cell? ⟨w.heap.size + 1, 2, none⟩ = some _ := cell_of_box HZ.out.1 rfl; have e3 : Z.cell? ⟨w.heap.size + 1, 3, none⟩ = some _ := cell_of_box HZ.out.1 rfl; refine bodyPost_ret (v := .tuple #[.string t9, (.agg #[.int .i64 B.n, .slice ao B.orders.length co, .slice al B.locked.length cl, .slice ac B.occ.length cc])]) (by simp [results, Tryz.results49, go_sem, e0, e1, e2, e3]) rfl ?_; exact ⟨⟨_, _, K, rfl, by rw [HE.out.2.2]; exact HT9.out.trans HSd.out.symm, by rw [HE.out.2.2]; exact HZ.out.2.1⟩, HZ.out.2.2.1⟩
   ·
    have HBK : Hid (bkP B E = (doP B E).2) := by
     show bkP B E = _
     unfold bkP
     have h1 : ¬ (doP B E).1 = 1 := fun q => by
      have h := HCd.out; rw [q] at h; rcases HOK.out with e | e | e | e | e | e | e | e | e
      · cases e
      · cases e; exact hk rfl
      all_goals (cases e; cases h)
     rw [if_neg h1]
    have hlt : k < 8 := by
     rcases HOK.out with e | e | e | e | e | e | e | e | e
     · cases e
     all_goals (cases e; omega)
    go_wp2_with fail
    try rw [hW2']
    clear hW2'; refine (is_any A (some k) 0 false W2 H4.out.2.1.er (by omega) (fun k' e => by cases e; exact hlt) (by simp [hk])).mono ?_; rintro e w6 ⟨rfl, hw6⟩; obtain rfl := hw6.symm; have H5 : Hid (Below w.heap.size w W2 ∧ Env W2 A ∧ W2.heap[w.heap.size + 1]? = some (.cells #[.int .i64 0, .slice none 0 0, .slice none 0 0, .slice none 0 0] 37 (0, 0)) ∧ W2.heap[w2.heap.size]? = some (.cells #[.int .i64 (doP B E).2.n, .slice a7 (doP B E).2.orders.length c7, .slice l7 (doP B E).2.locked.length d7, .slice o7 (doP B E).2.occ.length f7] 37 (0, 0)) ∧ W2.heap[w1.heap.size]? = some (.cells #[.bool true, .int .i64 E.op, .int .i64 E.of_, .string E.holder, .int .i64 E.kind, .slice ad E.secs.length c, .string E.text] 46 (0, 0)) ∧ OwnBook W2 lo (.agg #[.int .i64 (doP B E).2.n, .slice a7 (doP B E).2.orders.length c7, .slice l7 (doP B E).2.locked.length d7, .slice o7 (doP B E).2.occ.length f7]) (bkP B E) K7') := ⟨H4.out.1, H4.out.2.1, H4.out.2.2.1, H4.out.2.2.2.1, H4.out.2.2.2.2.1, by rw [HBK.out]; exact H4.out.2.2.2.2.2⟩
    have HLQ : Hid (∀ b, bookBlocks (bkP B E) K7' b → ¬ b = w.heap.size + 1) := by
     show ∀ b, _
     rw [HBK.out]; exact HL7.out
    have e0 : W2.cell? ⟨w.heap.size + 1, 0, none⟩ = some (.int .i64 0) := cell_of_box H5.out.2.2.1 rfl; have e1 : W2.cell? ⟨w.heap.size + 1, 1, none⟩ = some (.slice none 0 0) := cell_of_box H5.out.2.2.1 rfl; have e2 : W2.cell? ⟨w.heap.size + 1, 2, none⟩ = some (.slice none 0 0) := cell_of_box H5.out.2.2.1 rfl; have e3 : W2.cell? ⟨w.heap.size + 1, 3, none⟩ = some (.slice none 0 0) := cell_of_box H5.out.2.2.1 rfl; have g0 : W2.frozen? ⟨w.heap.size + 1, 0, none⟩ = false := frozen_of_box H5.out.2.2.1; have g1 : W2.frozen? ⟨w.heap.size + 1, 1, none⟩ = false := frozen_of_box H5.out.2.2.1; have g2 : W2.frozen? ⟨w.heap.size + 1, 2, none⟩ = false := frozen_of_box H5.out.2.2.1; have g3 : W2.frozen? ⟨w.heap.size + 1, 3, none⟩ = false := frozen_of_box H5.out.2.2.1; have s0 : W2.cell? ⟨w2.heap.size, 0, none⟩ = some (.int .i64 (doP B E).2.n) := cell_of_box H5.out.2.2.2.1 rfl; have s1 : W2.cell? ⟨w2.heap.size, 1, none⟩ = some (.slice a7 (doP B E).2.orders.length c7) := cell_of_box H5.out.2.2.2.1 rfl; have s2 : W2.cell? ⟨w2.heap.size, 2, none⟩ = some (.slice l7 (doP B E).2.locked.length d7) := cell_of_box H5.out.2.2.2.1 rfl; have s3 : W2.cell? ⟨w2.heap.size, 3, none⟩ = some (.slice o7 (doP B E).2.occ.length f7) := cell_of_box H5.out.2.2.2.1 rfl; have h0 : W2.cell? ⟨w1.heap.size, 0, none⟩ = some (.bool true) := cell_of_box H5.out.2.2.2.2.1 rfl; have h1 : W2.cell? ⟨w1.heap.size, 1, none⟩ = some (.int .i64 E.op) := cell_of_box H5.out.2.2.2.2.1 rfl; have h2 : W2.cell? ⟨w1.heap.size, 2, none⟩ = some (.int .i64 E.of_) := cell_of_box H5.out.2.2.2.2.1 rfl; have h3 : W2.cell? ⟨w1.heap.size, 3, none⟩ = some (.string E.holder) := cell_of_box H5.out.2.2.2.2.1 rfl; have h4 : W2.cell? ⟨w1.heap.size, 4, none⟩ = some (.int .i64 E.kind) := cell_of_box H5.out.2.2.2.2.1 rfl; have h5 : W2.cell? ⟨w1.heap.size, 5, none⟩ = some (.slice ad E.secs.length c) := cell_of_box H5.out.2.2.2.2.1 rfl; have h6 : W2.cell? ⟨w1.heap.size, 6, none⟩ = some (.string E.text) := cell_of_box H5.out.2.2.2.2.1 rfl; have zx0 : w.heap.size + 1 < W2.heap.size := (Array.getElem?_eq_some_iff.1 H5.out.2.2.1).1; have zx1 : w2.heap.size < W2.heap.size := (Array.getElem?_eq_some_iff.1 H5.out.2.2.2.1).1; go_wp2; refine wp_region_held_drew (S := (fun w' => w'.cell? ⟨w2.heap.size, 0, none⟩ = some (.int .i64 (doP B E).2.n) ∧ w'.cell? ⟨w2.heap.size, 1, none⟩ = some (.slice a7 (doP B E).2.orders.length c7) ∧ w'.cell? ⟨w2.heap.size, 2, none⟩ = some (.slice l7 (doP B E).2.locked.length d7) ∧ w'.cell? ⟨w2.heap.size, 3, none⟩ = some (.slice o7 (doP B E).2.occ.length f7))) (by kernel_rfl) ⟨s0, s1, s2, s3⟩ (fun hS0 => ?_); have HD : Hid (Below w.heap.size w W2.drew ∧ Env W2.drew A ∧ W2.drew.heap[w.heap.size + 1]? = some (.cells #[.int .i64 0, .slice none 0 0, .slice none 0 0, .slice none 0 0] 37 (0, 0)) ∧ W2.drew.heap[w2.heap.size]? = some (.cells #[.int .i64 (doP B E).2.n, .slice a7 (doP B E).2.orders.length c7, .slice l7 (doP B E).2.locked.length d7, .slice o7 (doP B E).2.occ.length f7] 37 (0, 0)) ∧ W2.drew.heap[w1.heap.size]? = some (.cells #[.bool true, .int .i64 E.op, .int .i64 E.of_, .string E.holder, .int .i64 E.kind, .slice ad E.secs.length c, .string E.text] 46 (0, 0)) ∧ OwnBook W2.drew lo (.agg #[.int .i64 (doP B E).2.n, .slice a7 (doP B E).2.orders.length c7, .slice l7 (doP B E).2.locked.length d7, .slice o7 (doP B E).2.occ.length f7]) (bkP B E) K7') := ⟨H5.out.1.trans (((Below.refl _ _).drew).mono H5.out.1.size), H5.out.2.1.below (Below.refl _ _).drew, H5.out.2.2.1, H5.out.2.2.2.1, H5.out.2.2.2.2.1, H5.out.2.2.2.2.2.below (Below.refl _ _).drew⟩; refine tk 0 rfl ?_; refine tk 3 rfl ?_; clear e0 g0 s0 e1 g1 s1 e2 g2 s2 e3 g3 s3 h0 h1 h2 h3 h4 h5 h6 zx0 zx1; refine rdy1 1 rfl (fun Kx hK => ?_); go_simp; have HC9 := codeOf_at A (some k) (W2.drew) HD.out.2.1.er HOK.out; rw [HCn.out] at HC9; refine HC9.mono ?_; rintro e w8 ⟨rfl, hw8⟩; obtain rfl := hw8.symm; clear HC9; refine hK.out _ _ hS0 (fun hS1 => ?_); clear hK Kx hS1; refine rdy1 2 rfl (fun Kx hK => ?_); go_simp; refine (itoa_any n _ hn9 HD.out.2.1.tab).mono ?_
    rintro e w9 ⟨⟨t9, rfl, ht9⟩, hb9⟩; have HT9 : Hid (bl t9 = Lib.decDigits n) := ht9; have H9 : Hid (Below w.heap.size w w9 ∧ Env w9 A ∧ w9.heap[w.heap.size + 1]? = some (.cells #[.int .i64 0, .slice none 0 0, .slice none 0 0, .slice none 0 0] 37 (0, 0)) ∧ w9.heap[w2.heap.size]? = some (.cells #[.int .i64 (doP B E).2.n, .slice a7 (doP B E).2.orders.length c7, .slice l7 (doP B E).2.locked.length d7, .slice o7 (doP B E).2.occ.length f7] 37 (0, 0)) ∧ w9.heap[w1.heap.size]? = some (.cells #[.bool true, .int .i64 E.op, .int .i64 E.of_, .string E.holder, .int .i64 E.kind, .slice ad E.secs.length c, .string E.text] 46 (0, 0)) ∧ OwnBook w9 lo (.agg #[.int .i64 (doP B E).2.n, .slice a7 (doP B E).2.orders.length c7, .slice l7 (doP B E).2.locked.length d7, .slice o7 (doP B E).2.occ.length f7]) (bkP B E) K7') := ⟨HD.out.1.trans (hb9.mono HD.out.1.size), HD.out.2.1.below hb9, (hb9.block _ (Array.getElem?_eq_some_iff.1 HD.out.2.2.1).1).trans HD.out.2.2.1, (hb9.block _ (Array.getElem?_eq_some_iff.1 HD.out.2.2.2.1).1).trans HD.out.2.2.2.1, (hb9.block _ (Array.getElem?_eq_some_iff.1 HD.out.2.2.2.2.1).1).trans HD.out.2.2.2.2.1, HD.out.2.2.2.2.2.below hb9⟩; clear ht9 hb9; have e0 : w9.cell? ⟨w.heap.size + 1, 0, none⟩ = some (.int .i64 0) := cell_of_box H9.out.2.2.1 rfl; have e1 : w9.cell? ⟨w.heap.size + 1, 1, none⟩ = some (.slice none 0 0) := cell_of_box H9.out.2.2.1 rfl; have e2 : w9.cell? ⟨w.heap.size + 1, 2, none⟩ = some (.slice none 0 0) := cell_of_box H9.out.2.2.1 rfl; have e3 : w9.cell? ⟨w.heap.size + 1, 3, none⟩ = some (.slice none 0 0) := cell_of_box H9.out.2.2.1 rfl; have g0 : w9.frozen? ⟨w.heap.size + 1, 0, none⟩ = false := frozen_of_box H9.out.2.2.1; have g1 : w9.frozen? ⟨w.heap.size + 1, 1, none⟩ = false := frozen_of_box H9.out.2.2.1; have g2 : w9.frozen? ⟨w.heap.size + 1, 2, none⟩ = false := frozen_of_box H9.out.2.2.1; have g3 : w9.frozen? ⟨w.heap.size + 1, 3, none⟩ = false := frozen_of_box H9.out.2.2.1; have s0 : w9.cell? ⟨w2.heap.size, 0, none⟩ = some (.int .i64 (doP B E).2.n) := cell_of_box H9.out.2.2.2.1 rfl; have s1 : w9.cell? ⟨w2.heap.size, 1, none⟩ = some (.slice a7 (doP B E).2.orders.length c7) := cell_of_box H9.out.2.2.2.1 rfl; have s2 : w9.cell? ⟨w2.heap.size, 2, none⟩ = some (.slice l7 (doP B E).2.locked.length d7) := cell_of_box H9.out.2.2.2.1 rfl; have s3 : w9.cell? ⟨w2.heap.size, 3, none⟩ = some (.slice o7 (doP B E).2.occ.length f7) := cell_of_box H9.out.2.2.2.1 rfl; have h0 : w9.cell? ⟨w1.heap.size, 0, none⟩ = some (.bool true) := cell_of_box H9.out.2.2.2.2.1 rfl; have h1 : w9.cell? ⟨w1.heap.size, 1, none⟩ = some (.int .i64 E.op) := cell_of_box H9.out.2.2.2.2.1 rfl; have h2 : w9.cell? ⟨w1.heap.size, 2, none⟩ = some (.int .i64 E.of_) := cell_of_box H9.out.2.2.2.2.1 rfl; have h3 : w9.cell? ⟨w1.heap.size, 3, none⟩ = some (.string E.holder) := cell_of_box H9.out.2.2.2.2.1 rfl; have h4 : w9.cell? ⟨w1.heap.size, 4, none⟩ = some (.int .i64 E.kind) := cell_of_box H9.out.2.2.2.2.1 rfl; have h5 : w9.cell? ⟨w1.heap.size, 5, none⟩ = some (.slice ad E.secs.length c) := cell_of_box H9.out.2.2.2.2.1 rfl; have h6 : w9.cell? ⟨w1.heap.size, 6, none⟩ = some (.string E.text) := cell_of_box H9.out.2.2.2.2.1 rfl; have zx0 : w.heap.size + 1 < w9.heap.size := (Array.getElem?_eq_some_iff.1 H9.out.2.2.1).1; have zx1 : w2.heap.size < w9.heap.size := (Array.getElem?_eq_some_iff.1 H9.out.2.2.2.1).1; refine hK.out _ _ ⟨s0, s1, s2, s3⟩ (fun hS1 => ?_); clear hK Kx hS1; obtain ⟨Z, hZ⟩ : ∃ Z, Z = put4 w9 (w.heap.size + 1) (.int .i64 (doP B E).2.n) (.slice a7 (doP B E).2.orders.length c7) (.slice l7 (doP B E).2.locked.length d7) (.slice o7 (doP B E).2.occ.length f7) := ⟨_, rfl⟩; have hZ' : ((((w9.setCell ⟨w.heap.size + 1, 0, none⟩ (.int .i64 (doP B E).2.n)).setCell ⟨w.heap.size + 1, 1, none⟩ (.slice a7 (doP B E).2.orders.length c7)).setCell ⟨w.heap.size + 1, 2, none⟩ (.slice l7 (doP B E).2.locked.length d7)).setCell ⟨w.heap.size + 1, 3, none⟩ (.slice o7 (doP B E).2.occ.length f7)) = Z := hZ.symm
    have HZ : Hid (Z.heap[w.heap.size + 1]? = some (.cells #[.int .i64 (doP B E).2.n, .slice a7 (doP B E).2.orders.length c7, .slice l7 (doP B E).2.locked.length d7, .slice o7 (doP B E).2.occ.length f7] 37 (0, 0)) ∧ OwnBook Z lo (.agg #[.int .i64 (doP B E).2.n, .slice a7 (doP B E).2.orders.length c7, .slice l7 (doP B E).2.locked.length d7, .slice o7 (doP B E).2.occ.length f7]) (bkP B E) K7' ∧ Below w.heap.size w Z ∧ Fr (fun x => x = w.heap.size + 1) w9 Z) := by
     rw [hZ]; have p4 := put4_box H9.out.2.2.1 (.int .i64 (doP B E).2.n) (.slice a7 (doP B E).2.orders.length c7) (.slice l7 (doP B E).2.locked.length d7) (.slice o7 (doP B E).2.occ.length f7); have f4 := put4_fr w9 (w.heap.size + 1) (.int .i64 (doP B E).2.n) (.slice a7 (doP B E).2.orders.length c7) (.slice l7 (doP B E).2.locked.length d7) (.slice o7 (doP B E).2.occ.length f7); exact ⟨p4, H9.out.2.2.2.2.2.fr f4 (fun b hb e => HLQ.out b hb e), H9.out.1.trans (f4.below (B := w.heap.size) (by omega) (fun i e => by omega)), f4⟩
    clear hZ; refine rdy1 4 rfl (fun Kx hK => ?_); go_simp; refine hK.out _ _ ⟨s0, s1, s2, s3⟩ (fun hS1 => ?_); clear hK Kx hS1; refine rdy1 5 rfl (fun Kx hK => ?_); go_simp
    try rw [hZ']
    have HSZ : Hid (Fr (fun x => x = w.heap.size + 1) w9 Z) := HZ.out.2.2.2; refine hK.out _ _ ⟨(cell_fr s0 HSZ.out zs2), (cell_fr s1 HSZ.out zs2), (cell_fr s2 HSZ.out zs2), (cell_fr s3 HSZ.out zs2)⟩ (fun hS1 => ?_); clear hK Kx hS1; refine wpAnyH_done (by kernel_rfl) ?_ _; go_simp; clear e0 g0 s0 e1 g1 s1 e2 g2 s2 e3 g3 s3 h0 h1 h2 h3 h4 h5 h6 zx0 zx1; clear hZ'; go_wp2; have e0 : Z.cell? ⟨w.heap.size + 1, 0, none⟩ = some _ := cell_of_box HZ.out.1 rfl; have e1 : Z.cell? ⟨w.heap.size + 1, 1, none⟩ = some _ := cell_of_box HZ.out.1 rfl; have e2 : Z.cell? ⟨w.heap.size + 1, 2, none⟩ = some _ := cell_of_box HZ.out.1 rfl; have e3 : Z.cell? ⟨w.heap.size + 1, 3, none⟩ = some _ := cell_of_box HZ.out.1 rfl; refine bodyPost_ret (v := .tuple #[.string t9, (.agg #[.int .i64 (doP B E).2.n, .slice a7 (doP B E).2.orders.length c7, .slice l7 (doP B E).2.locked.length d7, .slice o7 (doP B E).2.occ.length f7])]) (by simp [results, Tryz.results49, go_sem, e0, e1, e2, e3]) rfl ?_; exact ⟨⟨_, _, K7', rfl, by rw [HE.out.2.2]; exact HT9.out.trans HSd.out.symm, by rw [HE.out.2.2]; exact HZ.out.2.1⟩, HZ.out.2.2.1⟩
 ·
  have HN : Hid (X = (whatT, B)) := by
   show X = _
   rw [← HX.out]; unfold replyP; rw [heardOf_no hno]
  clear hno HX H0; have b0 : w1.cell? ⟨w.heap.size, 0, none⟩ = some _ := cell_of_box H1.out.2.2.2.1 rfl; have b1 : w1.cell? ⟨w.heap.size, 1, none⟩ = some _ := cell_of_box H1.out.2.2.2.1 rfl; have b2 : w1.cell? ⟨w.heap.size, 2, none⟩ = some _ := cell_of_box H1.out.2.2.2.1 rfl; have b3 : w1.cell? ⟨w.heap.size, 3, none⟩ = some _ := cell_of_box H1.out.2.2.2.1 rfl; have e0 : w1.cell? ⟨w.heap.size + 1, 0, none⟩ = some _ := cell_of_box H1.out.2.2.2.2.1 rfl; have e1 : w1.cell? ⟨w.heap.size + 1, 1, none⟩ = some _ := cell_of_box H1.out.2.2.2.2.1 rfl; have e2 : w1.cell? ⟨w.heap.size + 1, 2, none⟩ = some _ := cell_of_box H1.out.2.2.2.2.1 rfl; have e3 : w1.cell? ⟨w.heap.size + 1, 3, none⟩ = some _ := cell_of_box H1.out.2.2.2.2.1 rfl; have g0 : w1.frozen? ⟨w.heap.size + 1, 0, none⟩ = false := frozen_of_box H1.out.2.2.2.2.1; have g1 : w1.frozen? ⟨w.heap.size + 1, 1, none⟩ = false := frozen_of_box H1.out.2.2.2.2.1; have g2 : w1.frozen? ⟨w.heap.size + 1, 2, none⟩ = false := frozen_of_box H1.out.2.2.2.2.1; have g3 : w1.frozen? ⟨w.heap.size + 1, 3, none⟩ = false := frozen_of_box H1.out.2.2.2.2.1; obtain ⟨Z, hZ⟩ : ∃ Z, Z = ((put4 w1 (w.heap.size + 1) (.int .i64 B.n) (.slice ao B.orders.length co) (.slice al B.locked.length cl) (.slice ac B.occ.length cc)).alloc (.cells #[.bool false, .int .i64 0, .int .i64 0, .string ⟨#[]⟩, .int .i64 0, .slice none 0 0, .string ⟨#[]⟩] 46)).drew := ⟨_, rfl⟩; have hZ' : (((((w1.setCell ⟨w.heap.size + 1, 0, none⟩ (.int .i64 B.n)).setCell ⟨w.heap.size + 1, 1, none⟩ (.slice ao B.orders.length co)).setCell ⟨w.heap.size + 1, 2, none⟩ (.slice al B.locked.length cl)).setCell ⟨w.heap.size + 1, 3, none⟩ (.slice ac B.occ.length cc)).alloc (.cells #[.bool false, .int .i64 0, .int .i64 0, .string ⟨#[]⟩, .int .i64 0, .slice none 0 0, .string ⟨#[]⟩] 46)).drew = Z := hZ.symm
  have HZ : Hid (Z.heap[w.heap.size + 1]? = some (.cells #[.int .i64 B.n, .slice ao B.orders.length co, .slice al B.locked.length cl, .slice ac B.occ.length cc] 37 (0, 0)) ∧ OwnBook Z lo (.agg #[.int .i64 B.n, .slice ao B.orders.length co, .slice al B.locked.length cl, .slice ac B.occ.length cc]) B K ∧ Below w.heap.size w Z) := by
   rw [hZ]; have p4 := put4_box H1.out.2.2.2.2.1 (.int .i64 B.n) (.slice ao B.orders.length co) (.slice al B.locked.length cl) (.slice ac B.occ.length cc); have f4 := put4_fr w1 (w.heap.size + 1) (.int .i64 B.n) (.slice ao B.orders.length co) (.slice al B.locked.length cl) (.slice ac B.occ.length cc); have s4 := put4_size w1 (w.heap.size + 1) (.int .i64 B.n) (.slice ao B.orders.length co) (.slice al B.locked.length cl) (.slice ac B.occ.length cc); have hOz := H1.out.2.1.fr f4 (fun b hb e => by have := HLB.out b hb; omega); generalize put4 w1 (w.heap.size + 1) (.int .i64 B.n) (.slice ao B.orders.length co) (.slice al B.locked.length cl) (.slice ac B.occ.length cc) = Y at p4 f4 s4 hOz; have bz : Below Y.heap.size Y (Y.alloc (.cells #[.bool false, .int .i64 0, .int .i64 0, .string ⟨#[]⟩, .int .i64 0, .slice none 0 0, .string ⟨#[]⟩] 46)).drew := (below1 Y _).drew; exact ⟨(bz.block _ (by omega)).trans p4, hOz.below bz, (H1.out.1.trans (f4.below (B := w.heap.size) (by omega) (fun i e => by omega))).trans (bz.mono (by omega))⟩
  clear hZ; go_wp2; go_region; go_wp2
  try rw [hZ']
  clear hZ' b0 b1 b2 b3 e0 e1 e2 e3 g0 g1 g2 g3; have e0 : Z.cell? ⟨w.heap.size + 1, 0, none⟩ = some _ := cell_of_box HZ.out.1 rfl; have e1 : Z.cell? ⟨w.heap.size + 1, 1, none⟩ = some _ := cell_of_box HZ.out.1 rfl; have e2 : Z.cell? ⟨w.heap.size + 1, 2, none⟩ = some _ := cell_of_box HZ.out.1 rfl; have e3 : Z.cell? ⟨w.heap.size + 1, 3, none⟩ = some _ := cell_of_box HZ.out.1 rfl; refine bodyPost_ret (v := .tuple #[.string ⟨#[119, 104, 97, 116]⟩, (.agg #[.int .i64 B.n, .slice ao B.orders.length co, .slice al B.locked.length cl, .slice ac B.occ.length cc])]) (by simp [results, Tryz.results49, go_sem, e0, e1, e2, e3]) rfl ?_; exact ⟨⟨_, _, K, rfl, by rw [HN.out]; rfl, by rw [HN.out]; exact HZ.out.2.1⟩, HZ.out.2.2⟩
end Go.Proofs.YtdlaekjofgbjcaaGreatDoor
/-
 The round of an order, as plain notions: what each event does. Mine, by template (wip/gen.py).
-/
namespace Go.Proofs.YtdlaekjofgbjcaaGreatDoor
open Go.RowKit
/-! ### The text's length -/
theorem secT_len (x : Ord) (lim : Int) (hl : lim ≤ 100) (h : ∀ i, i < x.secs.length → 0 ≤ sV x i ∧ sV x i ≤ lim - 1) (k : Nat) (hk : k ≤ x.secs.length) : (secT x k).length ≤ 4 * k := by
 induction k with
 | zero => simp [secT]
 | succ k ih =>
  have h1 := ih (by omega); have h2 := h k (by omega); have h3 := dec_len (sV x k).toNat (by omega); simp only [secT, List.length_append, List.length_cons]; omega
end Go.Proofs.YtdlaekjofgbjcaaGreatDoor
/-
 What Answer keeps between two lines. Mine, by program (wip/sans.py), by template (wip/gen.py).
-/
namespace Go.Proofs.YtdlaekjofgbjcaaGreatDoor
open Go.RowKit
theorem Tryz.infoByte : (Tryz.prog.info? 5).map (fun i => (i.zero, i.size, i.bytes)) = some (some (.int .u8 0), 1, 1) := by kernel_rfl
theorem wpList_append_str {w : World} {ops : Array Oper} {rest : List Oper} {o : Oper} {a : Act} {Q : Exit → Act → World → Prop} (hg : o.guard = none) (s x : Operand) (hop : o.op = Op.call { callee := .builtin .append, args := #[s, x], argTypes := #[22, 9] })
  (base : Nat) (v : Value) (n : Nat) (xs : List Value) (hs : a.eval s = v) (hown : w.ownsRow base 5 1 v n xs) (t : ByteArray) (hx : a.eval x = .string t)
  (h63 : n + t.size ≤ 140737488355328) (hbase : base ≤ w.heap.size)
  (hK : ∀ v' w', w'.ownsRow base 5 1 v' (n + t.size) (xs ++ Lib.strCells t) → w.grownBy w' v.ownBlock → wpList Tryz.prog ops Q rest (a.put o.dst v') w') : wpList Tryz.prog ops Q (o :: rest) a w := by
 obtain ⟨i0, hi, hz0, hz1, hz2⟩ := info_parts Tryz.infoByte; refine wpList_plain hg fun K' hK' => ?_; obtain ⟨v', w', hr, h2, h3, -⟩ := Lib.run_append_own_string (P := Tryz.prog) w base 22 9 o.type 5 i0 Tryz.underlying22 Tryz.underlying9 hi hz0 hz1 hz2 v n xs hown t (by unfold maxLen; omega) h63 hbase; unfold Oper.wp; simp [execOp, hop, resolve, invoke, builtin, hs, hx, hr, Result.andThen]; exact hK' _ _ (hK v' w' h2 h3)
theorem book_no_byte {w : World} {lo : Nat} {v : Value} {B : Bk} {K : Blk} (h : OwnBook w lo v B K) {b : Nat} (hb : bookBlocks B K b) {c : Array Value} {f : Nat × Nat} (hx : w.heap[b]? = some (.cells c 5 f)) : False := by
 have key : ∀ {t : TypeId} {n : Nat} {V : Nat → Value}, Pre w b t n V → t = 5 := fun {t n V} q => by
  obtain ⟨c', h1, -⟩ := q; rw [hx] at h1; cases h1; rfl
 obtain ⟨ao, co, al, cl, ac, cc, _, h1, h2, h3⟩ := h.shape; rcases hb with (⟨hp, rfl⟩ | ⟨i, hi, hp, rfl⟩) | ⟨hp, rfl⟩ | ⟨hp, rfl⟩
 · exact absurd (key (h1.row hp)) (by decide)
 · exact absurd (key (h1.sec i hi hp).2) (by decide)
 · exact absurd (key (h2.row hp)) (by decide)
 · exact absurd (key (h3.row hp)) (by decide)
theorem textIs_le {B : Bk} {i : Int} {l : List UInt8} (h : TextIs B i l) : l.length ≤ 399 := by
 rcases h with ⟨_, rfl⟩ | ⟨hR, j, _, hj, h⟩
 · simp
 have hO := hR.2.1 j hj; have hn : B.n ≤ 60 := hR.1.1.2; have ho : B.orders.length ≤ 200 := hR.1.2.2.2; have hs := secT_len (bX B j) B.n (by omega) (fun q hq => ⟨(hO.2.2.1.1 q hq).1, (hO.2.2.1.1 q hq).2.1⟩) (bX B j).secs.length (Nat.le_refl _); have h20 : (bX B j).secs.length ≤ 20 := hO.2.2.1.2.2; have hh : (bl (bX B j).holder).length ≤ 20 := by rw [bl_size]; exact hO.1.2.2
 have hd := dec_len j (by omega)
 have hb : (baseT j (bX B j)).length ≤ 42 := by
  unfold baseT headT; have h2 : orderT.length = 6 := rfl; have h3 : toT.length = 4 := rfl; have h5 : passT.length = 6 := rfl; have h6 : workT.length = 9 := rfl
  split <;> simp only [List.length_append] <;> omega
 have hg : sightT.length = 9 := rfl
 rcases h with ⟨_, _, rfl⟩ | ⟨_, rfl⟩ <;> simp only [List.length_append] <;> omega
theorem ordText_len (B : Bk) (i : Int) : (ordText B i).length ≤ 399 := by
 unfold ordText; split
 · next h => exact textIs_le h.choose_spec
 · simp
theorem reply_len (B : Bk) (l : List UInt8) : (replyP B l).1.length ≤ 399 := by
 unfold replyP; split
 ·
  show whatT.length ≤ 399
  decide
 ·
  next E _ =>
  show (saidP B E).length ≤ 399
  unfold saidP; split
  · exact ordText_len _ _
  ·
   have := doP_range B E; have := dec_len (doP B E).1.toNat (by omega); omega
theorem foldP_len (B : Bk) (ls : List (List UInt8)) : (foldP B ls).1.length ≤ 400 * ls.length := by
 induction ls generalizing B with
 | nil => simp [foldP]
 | cons l ls ih =>
  have h1 := reply_len B l; have h2 := ih (replyP B l).2; simp only [foldP, List.length_append, List.length_cons]; omega
def BkVar (wr : World) (lo P : Nat) (B : Bk) : Prop := ∃ ao co al cl ac cc K, wr.heap[P]? = some (.cells #[.int .i64 B.n, .slice ao B.orders.length co, .slice al B.locked.length cl, .slice ac B.occ.length cc] 37 (0, 0)) ∧ OwnBook wr lo (.agg #[.int .i64 B.n, .slice ao B.orders.length co, .slice al B.locked.length cl, .slice ac B.occ.length cc]) B K ∧ ∀ b, bookBlocks B K b → b ≠ P
theorem BkVar.below {wr w' : World} {lo P : Nat} {B : Bk} (h : BkVar wr lo P B) (hb : Below wr.heap.size wr w') : BkVar w' lo P B := by
 obtain ⟨ao, co, al, cl, ac, cc, K, h1, h2, h3⟩ := h; exact ⟨ao, co, al, cl, ac, cc, K, (hb.block _ (Array.getElem?_eq_some_iff.1 h1).1).trans h1, h2.below hb, h3⟩
theorem BkVar.fr {S : Nat → Prop} {wr w' : World} {lo P : Nat} {B : Bk} (h : BkVar wr lo P B) (hf : Fr S wr w') (hS : ∀ b, S b → ∃ c f, wr.heap[b]? = some (Obj.cells c 5 f)) : BkVar w' lo P B := by
 obtain ⟨ao, co, al, cl, ac, cc, K, h1, h2, h3⟩ := h; refine ⟨ao, co, al, cl, ac, cc, K, (hf.block _ (Array.getElem?_eq_some_iff.1 h1).1 (fun e => ?_)).trans h1, h2.fr hf (fun b hb e => ?_), h3⟩
 ·
  obtain ⟨c, f, e⟩ := hS _ e; rw [h1] at e; simp only [Option.some.injEq, Obj.cells.injEq] at e; exact absurd e.2.1 (by decide)
 ·
  obtain ⟨c, f, e⟩ := hS _ e; exact book_no_byte h2 hb e
end Go.Proofs.YtdlaekjofgbjcaaGreatDoor
