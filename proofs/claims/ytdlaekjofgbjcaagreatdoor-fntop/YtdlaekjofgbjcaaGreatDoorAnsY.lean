import Derived.Test.YtdlaekjofgbjcaaGreatDoorDonesZ
import Derived.Test.YtdlaekjofgbjcaaGreatDoorOwnUpZ
import Derived.Test.YtdlaekjofgbjcaaGreatDoorIDoZ
import Derived.Test.YtdlaekjofgbjcaaGreatDoorEvZ
/-
 What an event does keeps a book right. Mine, by template (wip/gen.py).
-/
namespace Go.Proofs.YtdlaekjofgbjcaaGreatDoor
open Go.RowKit
theorem right_set {B : Bk} (h : Right B) {i : Nat} (hi : i < B.orders.length) {s : Int} (hs : In s 1 5)
  (hc : OpenP s → (∀ j, j < B.orders.length → j ≠ i → OpenP (bX B j).state → ¬ Meet (bX B j).secs.length (bX B i).secs.length (sV (bX B j)) (sV (bX B i))) ∧ ¬ Marked B.locked (bX B i)) : Right (setState B i s) := by
 obtain ⟨⟨h1, h2, h3, h4⟩, h5, h6, h7⟩ := h; have len := set_len B i s; have at_ : ∀ j, bX (setState B i s) j = if j = i then setSt (bX B i) s else bX B j := fun j => bX_set B i s hi j
 refine ⟨⟨h1, h2, h3, by rw [len]; exact h4⟩, fun j hj => ?_, fun a ha b hb cl => ?_, fun j hj lk => ?_⟩
 ·
  rw [len] at hj; rw [at_ j]; split
  ·
   obtain ⟨o1, o2, o3, _⟩ := h5 i hi; exact ⟨o1, o2, o3, hs⟩
  · exact h5 j hj
 ·
  rw [len] at ha; rw [at_ a, at_ b] at cl
  by_cases ea : a = i
  ·
   rw [if_pos ea, if_neg (by omega)] at cl; obtain ⟨c1, c2, p, q, hp, hq, e⟩ := cl; exact (hc c1).1 b (by omega) (by omega) c2 ⟨q, p, hq, hp, e.symm⟩
  ·
   rw [if_neg ea] at cl
   by_cases eb : b = i
   ·
    rw [if_pos eb] at cl; obtain ⟨c1, c2, p, q, hp, hq, e⟩ := cl; exact (hc c2).1 a ha ea c1 ⟨p, q, hp, hq, e⟩
   ·
    rw [if_neg eb] at cl; exact h6 a ha b hb cl
 ·
  rw [len] at hj; rw [at_ j] at lk
  by_cases ej : j = i
  ·
   rw [if_pos ej] at lk; obtain ⟨l1, q, hq, e⟩ := lk; exact (hc l1).2 ⟨q, hq, e⟩
  ·
   rw [if_neg ej] at lk; exact h7 j hj lk
theorem right_shut {B : Bk} (h : Right B) {i : Nat} (hi : i < B.orders.length) {s : Int} (hs : In s 1 5) (hn : ¬ OpenP s) : Right (setState B i s) := right_set h hi hs (fun q => absurd q hn)
theorem right_open {B : Bk} (h : Right B) {i : Nat} (hi : i < B.orders.length) {s : Int} (hs : In s 1 5) (ho : OpenP (bX B i).state) : Right (setState B i s) :=
 right_set h hi hs (fun _ => ⟨fun j hj ne op m => by
  rcases Nat.lt_or_gt_of_ne ne with l | l
  ·
   obtain ⟨p, q, hp, hq, e⟩ := m; exact h.2.2.1 i hi j l ⟨ho, op, q, p, hq, hp, e.symm⟩
  · exact h.2.2.1 j hj i l ⟨op, ho, m⟩, fun ⟨q, hq, e⟩ => h.2.2.2 i hi ⟨ho, q, hq, e⟩⟩)
theorem getD_set_bool (l : List Bool) (i j : Nat) (r : Bool) : (l.set i r).getD j false = true → (j = i ∧ r = true) ∨ l.getD j false = true := by
 intro h; rw [List.getD_eq_getElem?_getD, List.getElem?_set] at h
 by_cases e : i = j
 ·
  rw [if_pos e] at h
  by_cases q : i < l.length
  ·
   rw [if_pos q] at h; exact Or.inl ⟨e.symm, h⟩
  ·
   rw [if_neg q] at h; cases h
 ·
  rw [if_neg e, ← List.getD_eq_getElem?_getD] at h; exact Or.inr h
theorem right_lock {B : Bk} (h : Right B) (i : Nat) (r : Bool) (hr : r = true → ∀ j, j < B.orders.length → ¬ Has (bX B j) (i : Int)) : Right (setLock B i r) := by
 obtain ⟨⟨h1, h2, h3, h4⟩, h5, h6, h7⟩ := h; refine ⟨⟨h1, by simp [setLock]; exact h2, h3, h4⟩, h5, h6, fun j hj lk => ?_⟩; obtain ⟨l1, q, hq, e⟩ := lk; rcases getD_set_bool _ _ _ _ e with ⟨e1, e2⟩ | e1
 ·
  refine hr e2 j hj ⟨l1, q, hq, ?_⟩; have := ((h5 j hj).2.2.1.1 q hq).1; show sV (bX B j) q = (i : Int)
  have e3 : (sV (bX B j) q).toNat = i := e1; omega
 · exact h7 j hj ⟨l1, q, hq, e1⟩
theorem right_occ {B : Bk} (h : Right B) (i : Nat) (r : Bool) : Right (setOcc B i r) := by
 obtain ⟨⟨h1, h2, h3, h4⟩, h5, h6, h7⟩ := h; exact ⟨⟨h1, h2, by simp [setOcc]; exact h3, h4⟩, h5, h6, h7⟩
theorem right_add {B : Bk} (h : Right B) (x : Ord) (hl : B.orders.length < 200) (hx : OrdOk x B.n) (hn : ¬ OpenP x.state) : Right (addOrd B x) := by
 obtain ⟨⟨h1, h2, h3, h4⟩, h5, h6, h7⟩ := h; have len : (addOrd B x).orders.length = B.orders.length + 1 := by simp [addOrd]
 have at_ : ∀ j, j < B.orders.length + 1 → bX (addOrd B x) j = put1 (bX B) B.orders.length x j := fun j hj => bX_add B x j hj; have new : bX (addOrd B x) B.orders.length = x := by rw [at_ _ (by omega), put1_new]
 have old : ∀ j, j < B.orders.length → bX (addOrd B x) j = bX B j := fun j hj => by rw [at_ j (by omega), put1_old _ _ _ hj]
 refine ⟨⟨h1, h2, h3, by rw [len]; omega⟩, fun j hj => ?_, fun a ha b hb cl => ?_, fun j hj lk => ?_⟩
 ·
  rw [len] at hj
  by_cases e : j = B.orders.length
  ·
   subst e; rw [new]; exact hx
  ·
   rw [old j (by omega)]; exact h5 j (by omega)
 ·
  rw [len] at ha
  by_cases e : a = B.orders.length
  ·
   subst e; rw [new] at cl; exact hn cl.1
  ·
   rw [old a (by omega), old b (by omega)] at cl; exact h6 a (by omega) b hb cl
 ·
  rw [len] at hj
  by_cases e : j = B.orders.length
  ·
   subst e; rw [new] at lk; exact hn lk.1
  ·
   rw [old j (by omega)] at lk; exact h7 j (by omega) lk
theorem right_doP {B : Bk} {E : Ev} (ok : EvOk B E) : Right (doP B E).2 := by
 have h := ok.1; have hin := EvOk.some ok; unfold In at hin; rcases (show E.op = 1 ∨ E.op = 2 ∨ E.op = 3 ∨ E.op = 4 ∨ E.op = 5 ∨ E.op = 6 ∨ E.op = 7 ∨ E.op = 8 ∨ E.op = 9 by omega) with o | o | o | o | o | o | o | o | o
 ·
  rw [doP_write ok o]; obtain ⟨-, q1, q2, q3, -⟩ := ok.at1 o; unfold doWrite; split
  · exact right_add h _ (by assumption) ⟨q1, q2, q3, (show In (1 : Int) 1 5 from ⟨by decide, by decide⟩)⟩ (show ¬ OpenP (1 : Int) by unfold OpenP; decide)
  · exact h
 ·
  rw [doP_give ok o]; have q := (ok.at25 (Or.inl o)).1; unfold In at q; have hi : E.of_.toNat < B.orders.length := by omega
  unfold doGive; split
  ·
   next g =>
   refine right_set h hi ⟨by decide, by decide⟩ (fun _ => ?_); unfold giveC at g
   by_cases c1 : (bX B E.of_.toNat).state ≠ 1
   · rw [if_pos c1] at g; cases g
   rw [if_neg c1] at g
   by_cases c2 : Taken B E.of_.toNat
   · rw [if_pos c2] at g; cases g
   rw [if_neg c2] at g
   by_cases c3 : Marked B.locked (bX B E.of_.toNat)
   · rw [if_pos c3] at g; cases g
   exact ⟨fun j hj _ op m => c2 ⟨j, hj, op, m⟩, c3⟩
  · exact h
 ·
  rw [doP_repeat ok o]; have q := (ok.at3 o).1; unfold In at q; have hi : E.of_.toNat < B.orders.length := by omega
  unfold doRepeat; split
  · exact h
  ·
   next c1 =>
   have c1' : (bX B E.of_.toNat).state = 2 := Classical.not_not.1 c1; split
   · exact h
   ·
    split
    · exact right_shut h hi ⟨by decide, by decide⟩ (by unfold OpenP; decide)
    · exact right_open h hi ⟨by decide, by decide⟩ (Or.inl c1')
 ·
  rw [doP_back ok o]; have q := (ok.at4 o).1; unfold In at q; have hi : E.of_.toNat < B.orders.length := by omega
  unfold doBack; split
  · exact h
  ·
   split
   · exact h
   · exact right_shut h hi ⟨by decide, by decide⟩ (by unfold OpenP; decide)
 ·
  rw [doP_cancel ok o]; have q := (ok.at25 (Or.inr o)).1; unfold In at q; have hi : E.of_.toNat < B.orders.length := by omega
  unfold doCancel; split
  · exact h
  · exact right_shut h hi ⟨by decide, by decide⟩ (by unfold OpenP; decide)
 ·
  rw [doP_lock ok o]; have q := (ok.at6 ⟨by omega, by omega⟩).1; unfold In at q; unfold doLock; split
  · exact h
  ·
   next c1 =>
   refine right_lock h _ _ (fun _ j hj hh => c1 ⟨j, hj, ?_⟩); have e : ((E.of_.toNat : Nat) : Int) = E.of_ := by omega
   rw [e] at hh; exact hh
 · rw [doP_unlock ok o]; exact right_lock h _ _ (fun e => by cases e)
 · rw [doP_occ ok o]; exact right_occ h _ _
 · rw [doP_free ok o]; exact right_occ h _ _
theorem right_rB {B : Bk} (h : Right B) (X : Nat → Ev) (j : Nat) : Right (rB B X j) := by
 induction j with
 | zero => exact h
 | succ j ih =>
  simp only [rB]; split
  · exact ih
  ·
   next c =>
   by_cases ok : EvOk (rB B X j) (X j)
   · exact right_doP ok
   ·
    rw [doP_none ok] at c; exact absurd rfl c
end Go.Proofs.YtdlaekjofgbjcaaGreatDoor
/-
 The round of an order, as plain notions: what each event does. Mine, by template (wip/gen.py).
-/
namespace Go.Proofs.YtdlaekjofgbjcaaGreatDoor
open Go.RowKit
/-! ### The text's length -/
theorem secT_len (x : Ord) (lim : Int) (hl : lim ≤ 100) (h : ∀ i, i < x.secs.length → 0 ≤ sV x i ∧ sV x i ≤ lim - 1) (k : Nat) (hk : k ≤ x.secs.length) : (secT x k).length ≤ 4 * k := by
 induction k with
 | zero => simp [secT]
 | succ k ih =>
  have h1 := ih (by omega); have h2 := h k (by omega); have h3 := dec_len (sV x k).toNat (by omega); simp only [secT, List.length_append, List.length_cons]; omega
end Go.Proofs.YtdlaekjofgbjcaaGreatDoor
