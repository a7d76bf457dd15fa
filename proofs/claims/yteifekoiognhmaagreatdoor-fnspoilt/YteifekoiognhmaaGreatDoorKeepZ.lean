import Derived.Test.YteifekoiognhmaaGreatDoorEvsZ
import Derived.Test.YteifekoiognhmaaGreatDoorOwnUpZ
import Derived.Test.YteifekoiognhmaaGreatDoorIDo4
import Derived.Test.YteifekoiognhmaaGreatDoorCurZ
import Derived.Test.YteifekoiognhmaaGreatDoorErr
import Derived.Test.YteifekoiognhmaaGreatDoorRows
import Derived.LaidLaws
import Derived.Lib.LaidTab
import Derived.Lib.ItoaNum
import Derived.Stop.LaidErr
import Derived.OpenVars
/-
  What an event does keeps a book right. Mine, by template (wip/gen.py).
-/
namespace Go.Proofs.YteifekoiognhmaaGreatDoor
open Go.RowKit

theorem sV_set (x : Ord) (s : Int) (q : Nat) : sV (setSt x s) q = sV x q := rfl

/-- A book with the state of order i turned. -/
theorem right_set {B : Bk} (h : Right B) {i : Nat} (hi : i < B.orders.length) {s : Int} (hs : In s 1 5)
    (hc : OpenP s → (∀ j, j < B.orders.length → j ≠ i → OpenP (bX B j).state → ¬ Meet (bX B j).secs.length (bX B i).secs.length (sV (bX B j)) (sV (bX B i))) ∧ ¬ Marked B.locked (bX B i)) : Right (setState B i s) := by
  obtain ⟨⟨h1, h2, h3, h4⟩, h5, h6, h7⟩ := h
  have len := set_len B i s
  have at_ : ∀ j, bX (setState B i s) j = if j = i then setSt (bX B i) s else bX B j := fun j => bX_set B i s hi j
  refine ⟨⟨h1, h2, h3, by rw [len]; exact h4⟩, fun j hj => ?_, fun a ha b hb cl => ?_, fun j hj lk => ?_⟩
  · rw [len] at hj
    rw [at_ j]
    split
    · obtain ⟨o1, o2, o3, _⟩ := h5 i hi
      exact ⟨o1, o2, o3, hs⟩
    · exact h5 j hj
  · rw [len] at ha
    rw [at_ a, at_ b] at cl
    by_cases ea : a = i
    · rw [if_pos ea, if_neg (by omega)] at cl
      obtain ⟨c1, c2, p, q, hp, hq, e⟩ := cl
      exact (hc c1).1 b (by omega) (by omega) c2 ⟨q, p, hq, hp, e.symm⟩
    · rw [if_neg ea] at cl
      by_cases eb : b = i
      · rw [if_pos eb] at cl
        obtain ⟨c1, c2, p, q, hp, hq, e⟩ := cl
        exact (hc c2).1 a ha ea c1 ⟨p, q, hp, hq, e⟩
      · rw [if_neg eb] at cl
        exact h6 a ha b hb cl
  · rw [len] at hj
    rw [at_ j] at lk
    by_cases ej : j = i
    · rw [if_pos ej] at lk
      obtain ⟨l1, q, hq, e⟩ := lk
      exact (hc l1).2 ⟨q, hq, e⟩
    · rw [if_neg ej] at lk
      exact h7 j hj lk

/-- An order that is not open may be turned at will. -/
theorem right_shut {B : Bk} (h : Right B) {i : Nat} (hi : i < B.orders.length) {s : Int} (hs : In s 1 5) (hn : ¬ OpenP s) : Right (setState B i s) := right_set h hi hs (fun q => absurd q hn)

/-- An open order stays open. -/
theorem right_open {B : Bk} (h : Right B) {i : Nat} (hi : i < B.orders.length) {s : Int} (hs : In s 1 5) (ho : OpenP (bX B i).state) : Right (setState B i s) :=
  right_set h hi hs (fun _ => ⟨fun j hj ne op m => by
    rcases Nat.lt_or_gt_of_ne ne with l | l
    · obtain ⟨p, q, hp, hq, e⟩ := m
      exact h.2.2.1 i hi j l ⟨ho, op, q, p, hq, hp, e.symm⟩
    · exact h.2.2.1 j hj i l ⟨op, ho, m⟩, fun ⟨q, hq, e⟩ => h.2.2.2 i hi ⟨ho, q, hq, e⟩⟩)

theorem getD_set_bool (l : List Bool) (i j : Nat) (r : Bool) : (l.set i r).getD j false = true → (j = i ∧ r = true) ∨ l.getD j false = true := by
  intro h
  rw [List.getD_eq_getElem?_getD, List.getElem?_set] at h
  by_cases e : i = j
  · rw [if_pos e] at h
    by_cases q : i < l.length
    · rw [if_pos q] at h
      exact Or.inl ⟨e.symm, h⟩
    · rw [if_neg q] at h
      cases h
  · rw [if_neg e, ← List.getD_eq_getElem?_getD] at h
    exact Or.inr h

theorem right_lock {B : Bk} (h : Right B) (i : Nat) (r : Bool) (hr : r = true → ∀ j, j < B.orders.length → ¬ Has (bX B j) (i : Int)) : Right (setLock B i r) := by
  obtain ⟨⟨h1, h2, h3, h4⟩, h5, h6, h7⟩ := h
  refine ⟨⟨h1, by simp [setLock]; exact h2, h3, h4⟩, h5, h6, fun j hj lk => ?_⟩
  obtain ⟨l1, q, hq, e⟩ := lk
  rcases getD_set_bool _ _ _ _ e with ⟨e1, e2⟩ | e1
  · refine hr e2 j hj ⟨l1, q, hq, ?_⟩
    have := ((h5 j hj).2.2.1.1 q hq).1
    show sV (bX B j) q = (i : Int)
    have e3 : (sV (bX B j) q).toNat = i := e1
    omega
  · exact h7 j hj ⟨l1, q, hq, e1⟩

theorem right_occ {B : Bk} (h : Right B) (i : Nat) (r : Bool) : Right (setOcc B i r) := by
  obtain ⟨⟨h1, h2, h3, h4⟩, h5, h6, h7⟩ := h
  exact ⟨⟨h1, h2, by simp [setOcc]; exact h3, h4⟩, h5, h6, h7⟩

theorem right_add {B : Bk} (h : Right B) (x : Ord) (hl : B.orders.length < 200) (hx : OrdOk x B.n) (hn : ¬ OpenP x.state) : Right (addOrd B x) := by
  obtain ⟨⟨h1, h2, h3, h4⟩, h5, h6, h7⟩ := h
  have len : (addOrd B x).orders.length = B.orders.length + 1 := by simp [addOrd]
  have at_ : ∀ j, j < B.orders.length + 1 → bX (addOrd B x) j = put1 (bX B) B.orders.length x j := fun j hj => bX_add B x j hj
  have new : bX (addOrd B x) B.orders.length = x := by rw [at_ _ (by omega), put1_new]
  have old : ∀ j, j < B.orders.length → bX (addOrd B x) j = bX B j := fun j hj => by rw [at_ j (by omega), put1_old _ _ _ hj]
  refine ⟨⟨h1, h2, h3, by rw [len]; omega⟩, fun j hj => ?_, fun a ha b hb cl => ?_, fun j hj lk => ?_⟩
  · rw [len] at hj
    by_cases e : j = B.orders.length
    · subst e
      rw [new]
      exact hx
    · rw [old j (by omega)]
      exact h5 j (by omega)
  · rw [len] at ha
    by_cases e : a = B.orders.length
    · subst e
      rw [new] at cl
      exact hn cl.1
    · rw [old a (by omega), old b (by omega)] at cl
      exact h6 a (by omega) b hb cl
  · rw [len] at hj
    by_cases e : j = B.orders.length
    · subst e
      rw [new] at lk
      exact hn lk.1
    · rw [old j (by omega)] at lk
      exact h7 j (by omega) lk

theorem right_doP {B : Bk} {E : Ev} (ok : EvOk B E) : Right (doP B E).2 := by
  have h := ok.1
  have hin := EvOk.some ok
  unfold In at hin
  rcases (show E.op = 1 ∨ E.op = 2 ∨ E.op = 3 ∨ E.op = 4 ∨ E.op = 5 ∨ E.op = 6 ∨ E.op = 7 ∨ E.op = 8 ∨ E.op = 9 by omega) with o | o | o | o | o | o | o | o | o
  · rw [doP_write ok o]
    obtain ⟨-, q1, q2, q3, -⟩ := ok.at1 o
    unfold doWrite
    split
    · exact right_add h _ (by assumption) ⟨q1, q2, q3, (show In (1 : Int) 1 5 from ⟨by decide, by decide⟩)⟩ (show ¬ OpenP (1 : Int) by unfold OpenP; decide)
    · exact h
  · rw [doP_give ok o]
    have q := (ok.at25 (Or.inl o)).1
    unfold In at q
    have hi : E.of_.toNat < B.orders.length := by omega
    unfold doGive
    split
    · next g =>
      refine right_set h hi ⟨by decide, by decide⟩ (fun _ => ?_)
      unfold giveC at g
      by_cases c1 : (bX B E.of_.toNat).state ≠ 1
      · rw [if_pos c1] at g; cases g
      rw [if_neg c1] at g
      by_cases c2 : Taken B E.of_.toNat
      · rw [if_pos c2] at g; cases g
      rw [if_neg c2] at g
      by_cases c3 : Marked B.locked (bX B E.of_.toNat)
      · rw [if_pos c3] at g; cases g
      exact ⟨fun j hj _ op m => c2 ⟨j, hj, op, m⟩, c3⟩
    · exact h
  · rw [doP_repeat ok o]
    have q := (ok.at3 o).1
    unfold In at q
    have hi : E.of_.toNat < B.orders.length := by omega
    unfold doRepeat
    split
    · exact h
    · next c1 =>
      have c1' : (bX B E.of_.toNat).state = 2 := Classical.not_not.1 c1
      split
      · exact h
      · split
        · exact right_shut h hi ⟨by decide, by decide⟩ (by unfold OpenP; decide)
        · exact right_open h hi ⟨by decide, by decide⟩ (Or.inl c1')
  · rw [doP_back ok o]
    have q := (ok.at4 o).1
    unfold In at q
    have hi : E.of_.toNat < B.orders.length := by omega
    unfold doBack
    split
    · exact h
    · split
      · exact h
      · exact right_shut h hi ⟨by decide, by decide⟩ (by unfold OpenP; decide)
  · rw [doP_cancel ok o]
    have q := (ok.at25 (Or.inr o)).1
    unfold In at q
    have hi : E.of_.toNat < B.orders.length := by omega
    unfold doCancel
    split
    · exact h
    · exact right_shut h hi ⟨by decide, by decide⟩ (by unfold OpenP; decide)
  · rw [doP_lock ok o]
    have q := (ok.at6 ⟨by omega, by omega⟩).1
    unfold In at q
    unfold doLock
    split
    · exact h
    · next c1 =>
      refine right_lock h _ _ (fun _ j hj hh => c1 ⟨j, hj, ?_⟩)
      have e : ((E.of_.toNat : Nat) : Int) = E.of_ := by omega
      rw [e] at hh
      exact hh
  · rw [doP_unlock ok o]; exact right_lock h _ _ (fun e => by cases e)
  · rw [doP_occ ok o]; exact right_occ h _ _
  · rw [doP_free ok o]; exact right_occ h _ _

/-- Every book of a run is right. -/
theorem right_rB {B : Bk} (h : Right B) (X : Nat → Ev) (j : Nat) : Right (rB B X j) := by
  induction j with
  | zero => exact h
  | succ j ih =>
    simp only [rB]
    split
    · exact ih
    · next c =>
      by_cases ok : EvOk (rB B X j) (X j)
      · exact right_doP ok
      · rw [doP_none ok] at c
        exact absurd rfl c

end Go.Proofs.YteifekoiognhmaaGreatDoor

/-
  How an event turns the states of orders; where an order may be given, a section locked. Mine, by template (wip/gen.py).
-/
namespace Go.Proofs.YteifekoiognhmaaGreatDoor
open Go.RowKit

/-- The event is one that turns order k into this state. -/
def Fits (B : Bk) (E : Ev) (k : Nat) (now : Int) : Prop :=
  (now = 2 ∧ (bX B k).state = 1 ∧ E.op = 2 ∧ E.of_ = (k : Int)) ∨
  (now = 3 ∧ (bX B k).state = 2 ∧ E.op = 3 ∧ E.of_ = (k : Int) ∧ (bX B k).holder = E.holder ∧ OrdT B k (bl E.text)) ∨
  (now = 4 ∧ (bX B k).state = 3 ∧ E.op = 4 ∧ E.of_ = (k : Int) ∧ (bX B k).holder = E.holder) ∨
  (now = 5 ∧ ((bX B k).state = 1 ∨ (bX B k).state = 2) ∧ E.of_ = (k : Int) ∧ (E.op = 5 ∨ (E.op = 3 ∧ ¬ OrdT B k (bl E.text))))

theorem set_state {B : Bk} {i : Nat} (hi : i < B.orders.length) (s : Int) {k : Nat} : (bX (setState B i s) k).state = (bX B k).state ∨ (k = i ∧ (bX (setState B i s) k).state = s) := by
  rw [bX_set B i s hi k]
  split
  · next e => exact Or.inr ⟨e, rfl⟩
  · exact Or.inl rfl

theorem step_state {B : Bk} {E : Ev} (ok : EvOk B E) {k : Nat} (hk : k < B.orders.length) : (bX (doP B E).2 k).state = (bX B k).state ∨ Fits B E k (bX (doP B E).2 k).state := by
  have hin := EvOk.some ok
  unfold In at hin
  rcases (show E.op = 1 ∨ E.op = 2 ∨ E.op = 3 ∨ E.op = 4 ∨ E.op = 5 ∨ E.op = 6 ∨ E.op = 7 ∨ E.op = 8 ∨ E.op = 9 by omega) with o | o | o | o | o | o | o | o | o
  · rw [doP_write ok o]
    unfold doWrite
    split
    · left
      show (bX (addOrd B (eOrd E)) k).state = _
      rw [bX_add B _ k (by omega), put1_old _ _ _ hk]
    · exact Or.inl rfl
  · rw [doP_give ok o]
    have q := (ok.at25 (Or.inl o)).1
    unfold In at q
    have hi : E.of_.toNat < B.orders.length := by omega
    unfold doGive
    split
    · next g =>
      rcases set_state hi 2 (k := k) with e | ⟨e1, e2⟩
      · exact Or.inl e
      · refine Or.inr (Or.inl ⟨e2, ?_, o, by omega⟩)
        subst e1
        refine Classical.byContradiction (fun c1 => ?_)
        unfold giveC at g
        rw [if_pos c1] at g
        cases g
    · exact Or.inl rfl
  · rw [doP_repeat ok o]
    have q := (ok.at3 o).1
    unfold In at q
    have hi : E.of_.toNat < B.orders.length := by omega
    unfold doRepeat
    split
    · exact Or.inl rfl
    · next c1 =>
      have c1' : (bX B E.of_.toNat).state = 2 := Classical.not_not.1 c1
      split
      · exact Or.inl rfl
      · next c2 =>
        have c2' : (bX B E.of_.toNat).holder = E.holder := Classical.not_not.1 c2
        split
        · next c3 =>
          rcases set_state hi 5 (k := k) with e | ⟨e1, e2⟩
          · exact Or.inl e
          · subst e1
            exact Or.inr (Or.inr (Or.inr (Or.inr ⟨e2, Or.inr c1', by omega, Or.inr ⟨o, c3⟩⟩)))
        · next c3 =>
          rcases set_state hi 3 (k := k) with e | ⟨e1, e2⟩
          · exact Or.inl e
          · subst e1
            exact Or.inr (Or.inr (Or.inl ⟨e2, c1', o, by omega, c2', Classical.not_not.1 c3⟩))
  · rw [doP_back ok o]
    have q := (ok.at4 o).1
    unfold In at q
    have hi : E.of_.toNat < B.orders.length := by omega
    unfold doBack
    split
    · exact Or.inl rfl
    · next c1 =>
      have c1' : (bX B E.of_.toNat).state = 3 := Classical.not_not.1 c1
      split
      · exact Or.inl rfl
      · next c2 =>
        have c2' : (bX B E.of_.toNat).holder = E.holder := Classical.not_not.1 c2
        rcases set_state hi 4 (k := k) with e | ⟨e1, e2⟩
        · exact Or.inl e
        · subst e1
          exact Or.inr (Or.inr (Or.inr (Or.inl ⟨e2, c1', o, by omega, c2'⟩)))
  · rw [doP_cancel ok o]
    have q := (ok.at25 (Or.inr o)).1
    unfold In at q
    have hi : E.of_.toNat < B.orders.length := by omega
    unfold doCancel
    split
    · exact Or.inl rfl
    · next c1 =>
      rcases set_state hi 5 (k := k) with e | ⟨e1, e2⟩
      · exact Or.inl e
      · subst e1
        exact Or.inr (Or.inr (Or.inr (Or.inr ⟨e2, by omega, by omega, Or.inl o⟩)))
  · rw [doP_lock ok o]; unfold doLock; split <;> exact Or.inl rfl
  · rw [doP_unlock ok o]; exact Or.inl rfl
  · rw [doP_occ ok o]; exact Or.inl rfl
  · rw [doP_free ok o]; exact Or.inl rfl

/-- An event whose order was given: where nobody is, or nothing is said. -/
theorem men_give {B : Bk} {E : Ev} (ok : EvOk B E) (o : E.op = 2) (hc : (doP B E).1 = 0) :
    (doP B E).2 = setState B E.of_.toNat 2 ∧ E.of_.toNat < B.orders.length ∧ ∀ q, q < (bX B E.of_.toNat).secs.length → ¬ ((bX B E.of_.toNat).kind = 2 ∧ B.occ.getD (sV (bX B E.of_.toNat) q).toNat false = true) ∧ B.locked.getD (sV (bX B E.of_.toNat) q).toNat false = false ∧ ∀ j, j < B.orders.length → ¬ Has (bX B j) (sV (bX B E.of_.toNat) q) := by
  have q := (ok.at25 (Or.inl o)).1
  unfold In at q
  have hi : E.of_.toNat < B.orders.length := by omega
  rw [doP_give ok o] at hc ⊢
  have g : giveC B E.of_.toNat = 0 := by
    unfold doGive at hc
    split at hc
    · assumption
    · exact hc
  refine ⟨by unfold doGive; rw [if_pos g], hi, fun q hq => ?_⟩
  unfold giveC at g
  by_cases c1 : (bX B E.of_.toNat).state ≠ 1
  · rw [if_pos c1] at g; cases g
  rw [if_neg c1] at g
  by_cases c2 : Taken B E.of_.toNat
  · rw [if_pos c2] at g; cases g
  rw [if_neg c2] at g
  by_cases c3 : Marked B.locked (bX B E.of_.toNat)
  · rw [if_pos c3] at g; cases g
  rw [if_neg c3] at g
  by_cases c4 : (bX B E.of_.toNat).kind = 2 ∧ Marked B.occ (bX B E.of_.toNat)
  · rw [if_pos c4] at g; cases g
  refine ⟨fun c => c4 ⟨c.1, q, hq, c.2⟩, ?_, fun j hj hh => ?_⟩
  · by_cases e : B.locked.getD (sV (bX B E.of_.toNat) q).toNat false = true
    · exact absurd ⟨q, hq, e⟩ c3
    · simpa using e
  · obtain ⟨op, p, hp, e⟩ := hh
    exact c2 ⟨j, hj, op, p, q, hp, hq, e⟩

/-- A section is locked just where nobody has it. -/
theorem men_lock {B : Bk} {E : Ev} (ok : EvOk B E) (o : E.op = 6) : (doP B E).1 = 0 ↔ ∀ j, j < B.orders.length → ¬ Has (bX B j) E.of_ := by
  rw [doP_lock ok o]
  unfold doLock
  split
  · next c =>
    constructor
    · intro e
      cases e
    · intro h
      obtain ⟨j, hj, hh⟩ := c
      exact absurd hh (h j hj)
  · next c => exact ⟨fun _ j hj hh => c ⟨j, hj, hh⟩, fun _ => rfl⟩

/-- Orders are never taken away. -/
theorem len_doP {B : Bk} {E : Ev} (ok : EvOk B E) : B.orders.length ≤ (doP B E).2.orders.length := by
  have hin := EvOk.some ok
  unfold In at hin
  rcases (show E.op = 1 ∨ E.op = 2 ∨ E.op = 3 ∨ E.op = 4 ∨ E.op = 5 ∨ E.op = 6 ∨ E.op = 7 ∨ E.op = 8 ∨ E.op = 9 by omega) with o | o | o | o | o | o | o | o | o
  · rw [doP_write ok o]; unfold doWrite; split
    · simp [addOrd]
    · exact Nat.le_refl _
  · rw [doP_give ok o]; unfold doGive; split
    · rw [set_len]; exact Nat.le_refl _
    · exact Nat.le_refl _
  · rw [doP_repeat ok o]; unfold doRepeat; split
    · exact Nat.le_refl _
    · split
      · exact Nat.le_refl _
      · split <;> (rw [set_len]; exact Nat.le_refl _)
  · rw [doP_back ok o]; unfold doBack; split
    · exact Nat.le_refl _
    · split
      · exact Nat.le_refl _
      · rw [set_len]; exact Nat.le_refl _
  · rw [doP_cancel ok o]; unfold doCancel; split
    · exact Nat.le_refl _
    · rw [set_len]; exact Nat.le_refl _
  · rw [doP_lock ok o]; unfold doLock; split <;> exact Nat.le_refl _
  · rw [doP_unlock ok o]; exact Nat.le_refl _
  · rw [doP_occ ok o]; exact Nat.le_refl _
  · rw [doP_free ok o]; exact Nat.le_refl _

end Go.Proofs.YteifekoiognhmaaGreatDoor

/-
  Events appended one by one. Mine, by template (wip/gen.py).
-/
namespace Go.Proofs.YteifekoiognhmaaGreatDoor
open Go.RowKit

def evCell (x : Ev) (a : Option Addr) (c : Nat) : Nat → Value
  | 0 => .int .i64 x.op
  | 1 => .int .i64 x.of_
  | 2 => .string x.holder
  | 3 => .int .i64 x.kind
  | 4 => .slice a x.secs.length c
  | _ => .string x.text
def cellsE (x : Ev) (a : Option Addr) (c : Nat) : List Value := [.int .i64 x.op, .int .i64 x.of_, .string x.holder, .int .i64 x.kind, .slice a x.secs.length c, .string x.text]
def evCells (X : Nat → Ev) (sa : Nat → Option Addr) (sc : Nat → Nat) (j : Nat) : Value := evCell (X (j / 6)) (sa (j / 6)) (sc (j / 6)) (j % 6)
def flatE (X : Nat → Ev) (sa : Nat → Option Addr) (sc : Nat → Nat) (n : Nat) : List Value := (List.range (n * 6)).map (evCells X sa sc)

theorem flatE_succ (X : Nat → Ev) (sa : Nat → Option Addr) (sc : Nat → Nat) (n : Nat) (x : Ev) (a : Option Addr) (c : Nat) :
    flatE (put1 X n x) (put1 sa n a) (put1 sc n c) (n + 1) = flatE X sa sc n ++ cellsE x a c := by
  unfold flatE
  rw [show (n + 1) * 6 = n * 6 + 6 by omega, List.range_add, List.map_append]
  congr 1
  · refine List.map_congr_left (fun j hj => ?_)
    have hj' : j < n * 6 := List.mem_range.1 hj
    unfold evCells
    rw [put1_old X n x (i := j / 6) (by omega), put1_old sa n a (i := j / 6) (by omega), put1_old sc n c (i := j / 6) (by omega)]
  · have d : ∀ r, r < 6 → (n * 6 + r) / 6 = n ∧ (n * 6 + r) % 6 = r := fun r hr => by omega
    have g : ∀ r, r < 6 → evCells (put1 X n x) (put1 sa n a) (put1 sc n c) (n * 6 + r) = evCell x a c r := fun r hr => by
      unfold evCells
      rw [(d r hr).1, (d r hr).2, put1_new, put1_new, put1_new]
    rw [show List.range 6 = [0, 1, 2, 3, 4, 5] from rfl]
    simp only [List.map_cons, List.map_nil]
    rw [g 0 (by omega), g 1 (by omega), g 2 (by omega), g 3 (by omega), g 4 (by omega), g 5 (by omega)]
    rfl

/-- The first n events of a slice that is appended to, each with its sections in memory of its own. -/
structure RowEvs (w : World) (lo : Nat) (u : Value) (n : Nat) (X : Nat → Ev) (sa : Nat → Option Addr) (sc : Nat → Nat) : Prop where
  row : w.ownsRow lo 32 6 u n (flatE X sa sc n)
  own : ∀ i, i < n → w.ownsRow lo 3 1 (.slice (sa i) (X i).secs.length (sc i)) (X i).secs.length ((X i).secs.map (Value.int .i64))
  dis : ∀ i, i < n → ∀ x, (Value.slice (sa i) (X i).secs.length (sc i)).ownBlock = some x → u.ownBlock ≠ some x

theorem rowEvs_nil (w : World) (lo : Nat) (X : Nat → Ev) (sa : Nat → Option Addr) (sc : Nat → Nat) : RowEvs w lo (.slice none 0 0) 0 X sa sc :=
  ⟨World.ownsRow_nil _ _ _ _, fun i hi => absurd hi (by omega), fun i hi => absurd hi (by omega)⟩

theorem RowEvs.fr {w w' : World} {lo : Nat} {u : Value} {n : Nat} {X : Nat → Ev} {sa : Nat → Option Addr} {sc : Nat → Nat} (h : RowEvs w lo u n X sa sc) {S : Nat → Prop} (hf : Fr S w w') (hs : ∀ x, lo ≤ x → ¬ S x) : RowEvs w' lo u n X sa sc :=
  ⟨owns_of_block h.row (fun g hg => hf.block g (owns_lt h.row hg).2 (hs g (owns_lt h.row hg).1)), fun i hi => owns_of_block (h.own i hi) (fun g hg => hf.block g (owns_lt (h.own i hi) hg).2 (hs g (owns_lt (h.own i hi) hg).1)), h.dis⟩

theorem RowEvs.below {w w' : World} {lo : Nat} {u : Value} {n : Nat} {X : Nat → Ev} {sa : Nat → Option Addr} {sc : Nat → Nat} (h : RowEvs w lo u n X sa sc) (hb : Below w.heap.size w w') : RowEvs w' lo u n X sa sc :=
  ⟨owns_below h.row hb, fun i hi => owns_below (h.own i hi) hb, h.dis⟩

theorem RowEvs.push {w w2 : World} {lo : Nat} {u u2 : Value} {n : Nat} {X : Nat → Ev} {sa : Nat → Option Addr} {sc : Nat → Nat} (h : RowEvs w lo u n X sa sc) (x : Ev) (a : Option Addr) (c : Nat)
    (hx : w.ownsRow lo 3 1 (.slice a x.secs.length c) x.secs.length (x.secs.map (Value.int .i64))) (hd : ∀ g, (Value.slice a x.secs.length c).ownBlock = some g → u.ownBlock ≠ some g)
    (h2 : w2.ownsRow lo 32 6 u2 (n + 1) (flatE X sa sc n ++ cellsE x a c)) (hg : w.grownBy w2 u.ownBlock) (hk : u2.ownBlock = u.ownBlock ∨ u2.ownBlock = some w.heap.size) :
    RowEvs w2 lo u2 (n + 1) (put1 X n x) (put1 sa n a) (put1 sc n c) := by
  have hf : Fr (fun x => u.ownBlock = some x) w w2 := ⟨hg.os, hg.tape, hg.output, hg.size, fun k hk' hn => hg.block k hk' (fun e => hn e.symm)⟩
  have new : ∀ x, x < w.heap.size → u.ownBlock ≠ some x → u2.ownBlock ≠ some x := fun x hx hu => by
    rcases hk with e | e
    · rw [e]; exact hu
    · rw [e]; simp only [ne_eq, Option.some.injEq]; omega
  refine ⟨by rw [flatE_succ]; exact h2, fun i hi => ?_, fun i hi y hy => ?_⟩
  · by_cases ei : i = n
    · subst ei
      rw [put1_new, put1_new, put1_new]
      exact owns_of_block hx (fun g hg' => hf.block g (owns_lt hx hg').2 (hd g hg'))
    · have hi' : i < n := by omega
      rw [put1_old _ _ _ hi', put1_old _ _ _ hi', put1_old _ _ _ hi']
      exact owns_of_block (h.own i hi') (fun g hg' => hf.block g (owns_lt (h.own i hi') hg').2 (h.dis i hi' g hg'))
  · by_cases ei : i = n
    · subst ei
      rw [put1_new, put1_new, put1_new] at hy
      exact new y (owns_lt hx hy).2 (hd y hy)
    · have hi' : i < n := by omega
      rw [put1_old _ _ _ hi', put1_old _ _ _ hi', put1_old _ _ _ hi'] at hy
      exact new y (owns_lt (h.own i hi') hy).2 (h.dis i hi' y hy)

theorem cells_of_owns {w : World} {lo : Nat} {a : Option Addr} {c : Nat} {l : List Int} (h : w.ownsRow lo 3 1 (.slice a l.length c) l.length (l.map (Value.int .i64))) : Cells w a l.length (iV l) := by
  have h' : w.ownsRow lo 3 1 (.slice a l.length c) l.length ((List.range (l.length * 1)).map (iV l)) := by
    have e : (List.range (l.length * 1)).map (iV l) = l.map (Value.int .i64) := by
      refine List.ext_getElem? (fun i => ?_)
      by_cases hi : i < l.length
      · simp [iV, hi]
      · simp [hi]
    rw [e]; exact h
  obtain ⟨ad, c', G, hv, hp⟩ := pre_of_owns h'
  simp only [Value.slice.injEq, true_and] at hv
  obtain ⟨rfl, rfl⟩ := hv
  refine ⟨G, 0, fun p => (hp p).1, fun i hi => ?_⟩
  have := ((hp (by omega)).2.2.1).cell (i := i) (by omega)
  simpa using this

theorem RowEvs.done {w : World} {lo : Nat} {u : Value} {n : Nat} {X : Nat → Ev} {sa : Nat → Option Addr} {sc : Nat → Nat} (h : RowEvs w lo u n X sa sc) : ∃ ad c, u = .slice ad n c ∧ EventsAt w ad n X := by
  obtain ⟨ad, c, G, hv, hp⟩ := pre_of_owns h.row
  refine ⟨ad, c, hv, G, 0, fun p => (hp p).1, fun i hi => ⟨sa i, sc i, ?_⟩⟩
  have pr := (hp (by omega)).2.2.1
  have d : ∀ r, r < 6 → w.cell? ⟨G, 0 + i * 6 + r, none⟩ = some (evCell (X i) (sa i) (sc i) r) := fun r hr => by
    have q := pr.cell (i := i * 6 + r) (by omega)
    have e1 : (i * 6 + r) / 6 = i := by omega
    have e2 : (i * 6 + r) % 6 = r := by omega
    unfold evCells at q
    rw [e1, e2] at q
    rw [Nat.zero_add]
    exact q
  exact ⟨d 0 (by omega), d 1 (by omega), d 2 (by omega), d 3 (by omega), d 4 (by omega), d 5 (by omega), cells_of_owns (h.own i hi)⟩

end Go.Proofs.YteifekoiognhmaaGreatDoor

/-
  The cell 'laid' of Do and Run: the program's eight errors, and the table of powers. Mine, by template (wip/gen.py; written by wip/plaid.py).
-/
namespace Go.Proofs.YteifekoiognhmaaGreatDoor
open Go.RowKit Go.ChangeShapes Go.WideShapes

theorem gTab : Tryz.prog.globalNamed "internal/strconv.uint64pow10" = some 8 := by kernel_rfl
theorem gTabType : (Tryz.prog.globals[8]?).map (·.type) = some 152 := by kernel_rfl
theorem cellsT : Tryz.prog.cellsOf 152 = 20 := by kernel_rfl
theorem cellsErr : Tryz.prog.cellsOf 51 = 1 := by kernel_rfl
theorem datumTab : (Rows.laid_internal_strconv_uint64pow10 : DataW Unit) = Lib.tabData .u64 Lib.pow10Tab := by kernel_rfl
theorem errStar : "*" ++ "errors.errorString" = "*errors.errorString" := by decide
theorem errCells : Tryz.prog.cellsOf 181 = 1 := by kernel_rfl
theorem strCells : Tryz.prog.cellsOf 9 = 1 := by kernel_rfl
theorem errRow (u : TypeId) (h : Tryz.prog.typeName? 3 u = some "*errors.errorString") : u = 159 :=
  typeName_ptr_named (nm := "errors.errorString") (by rw [errStar]; kernel_rfl) (by kernel_rfl) (by decide) u (by rw [errStar]; exact h)

set_option maxRecDepth 100000 in
theorem laid_err {n : String} {text : List UInt8} {r : List (String × DataW Unit)} {W : World} {g : Nat} (h : laidMet Tryz.prog ((n, .iface "*errors.errorString" (.ptr (.agg [.lit (.string text)]))) :: r) W)
    (hg : Tryz.prog.globalNamed n = some g) (ht : (Tryz.prog.globals[g]?).map (·.type) = some 60) :
    ∃ a : Addr, W.cell? ⟨g, 0, none⟩ = some (.iface 159 (.pointer (some a))) ∧ (∃ s : ByteArray, W.cell? a = some (.string s) ∧ s.data.toList = text) ∧ ∃ c t, W.heap[a.block]? = some (.cells c t (0, 0)) := by
  obtain ⟨ps, ⟨g0, t0, cs0, f0, p0, q0, hg0, ht0, hv0, hd0, _, e0⟩, _, hrows⟩ := h
  obtain rfl := Option.some.inj (hg.symm.trans hg0)
  obtain rfl := Option.some.inj (ht.symm.trans ht0)
  subst e0
  obtain ⟨l0⟩ := cs0
  have ok0 : ∀ u v, l0 = [.iface u v] → Value.okWide Tryz.prog W .any 0 u v := fun u v e => by
    subst e
    exact (hrows g 0 (by simp [MemPlace.row])).2 u v (by simpa using World.var?_cell hg0 hv0 0)
  obtain ⟨a0, s0, rfl, hc0, hs0, hz0, rfl⟩ := errorString_of_trod Tryz.underlying60 errRow Tryz.underlying159 Tryz.underlying181 rfl rfl Tryz.underlying9 errCells strCells hd0 ok0
  exact ⟨a0, by simpa using World.var?_cell hg0 hv0 0, ⟨s0, hc0, hs0⟩, (hrows a0.block a0.off (by simp [MemPlace.row])).1⟩

def textOf : DataW Unit → List UInt8
  | .iface _ (.ptr (.agg [.lit (.string t)])) => t
  | _ => []

/-- The errors' texts. -/
def errT : Nat → List UInt8
  | 0 => textOf Rows.laid_loop_example_handsignal_impl_errNoEvent
  | 1 => textOf Rows.laid_loop_example_handsignal_impl_errBookFull
  | 2 => textOf Rows.laid_loop_example_handsignal_impl_errState
  | 3 => textOf Rows.laid_loop_example_handsignal_impl_errTaken
  | 4 => textOf Rows.laid_loop_example_handsignal_impl_errNotHolder
  | 5 => textOf Rows.laid_loop_example_handsignal_impl_errLocked
  | 6 => textOf Rows.laid_loop_example_handsignal_impl_errMisheard
  | _ => textOf Rows.laid_loop_example_handsignal_impl_errSomebody

theorem errT_ne : ∀ i, i < 8 → ∀ j, j < 8 → i ≠ j → errT i ≠ errT j := by decide +kernel

theorem errN0 : Tryz.prog.globalNamed "loop.example/handsignal/impl.errNoEvent" = some 0 := by kernel_rfl
theorem errY0 : (Tryz.prog.globals[0]?).map (·.type) = some 60 := by kernel_rfl
theorem errN1 : Tryz.prog.globalNamed "loop.example/handsignal/impl.errBookFull" = some 1 := by kernel_rfl
theorem errY1 : (Tryz.prog.globals[1]?).map (·.type) = some 60 := by kernel_rfl
theorem errN2 : Tryz.prog.globalNamed "loop.example/handsignal/impl.errState" = some 2 := by kernel_rfl
theorem errY2 : (Tryz.prog.globals[2]?).map (·.type) = some 60 := by kernel_rfl
theorem errN3 : Tryz.prog.globalNamed "loop.example/handsignal/impl.errTaken" = some 3 := by kernel_rfl
theorem errY3 : (Tryz.prog.globals[3]?).map (·.type) = some 60 := by kernel_rfl
theorem errN4 : Tryz.prog.globalNamed "loop.example/handsignal/impl.errNotHolder" = some 4 := by kernel_rfl
theorem errY4 : (Tryz.prog.globals[4]?).map (·.type) = some 60 := by kernel_rfl
theorem errN5 : Tryz.prog.globalNamed "loop.example/handsignal/impl.errLocked" = some 5 := by kernel_rfl
theorem errY5 : (Tryz.prog.globals[5]?).map (·.type) = some 60 := by kernel_rfl
theorem errN6 : Tryz.prog.globalNamed "loop.example/handsignal/impl.errMisheard" = some 6 := by kernel_rfl
theorem errY6 : (Tryz.prog.globals[6]?).map (·.type) = some 60 := by kernel_rfl
theorem errN7 : Tryz.prog.globalNamed "loop.example/handsignal/impl.errSomebody" = some 7 := by kernel_rfl
theorem errY7 : (Tryz.prog.globals[7]?).map (·.type) = some 60 := by kernel_rfl

abbrev laidAll : List (String × DataW Unit) := Rows.fnAloneRow.laid

theorem table_of {W : World} (h : laidMet Tryz.prog laidAll W) : Lib.TabIs Tryz.prog W "internal/strconv.uint64pow10" .u64 Lib.pow10Tab := by
  have h2 := laidMet.tail (laidMet.tail h)
  rw [datumTab] at h2
  exact Lib.tabIs_of_head gTab gTabType Tryz.underlying152 Tryz.underlying51 cellsErr cellsT h2

def pick (a0 a1 a2 a3 a4 a5 a6 a7 : Addr) : Nat → Addr
  | 0 => a0
  | 1 => a1
  | 2 => a2
  | 3 => a3
  | 4 => a4
  | 5 => a5
  | 6 => a6
  | _ => a7

theorem errs_of {W : World} (h : laidMet Tryz.prog laidAll W) : ∃ A, Errs W A := by
  have h0 := laidMet.tail (laidMet.tail (laidMet.tail h))
  obtain ⟨a0, v0, s0, b0⟩ := laid_err (text := errT 0) h0 errN0 errY0
  have h1 := laidMet.tail h0
  obtain ⟨a1, v1, s1, b1⟩ := laid_err (text := errT 1) h1 errN1 errY1
  have h2 := laidMet.tail h1
  obtain ⟨a2, v2, s2, b2⟩ := laid_err (text := errT 2) h2 errN2 errY2
  have h3 := laidMet.tail h2
  obtain ⟨a3, v3, s3, b3⟩ := laid_err (text := errT 3) h3 errN3 errY3
  have h4 := laidMet.tail h3
  obtain ⟨a4, v4, s4, b4⟩ := laid_err (text := errT 4) h4 errN4 errY4
  have h5 := laidMet.tail h4
  obtain ⟨a5, v5, s5, b5⟩ := laid_err (text := errT 5) h5 errN5 errY5
  have h6 := laidMet.tail h5
  obtain ⟨a6, v6, s6, b6⟩ := laid_err (text := errT 6) h6 errN6 errY6
  have h7 := laidMet.tail h6
  obtain ⟨a7, v7, s7, b7⟩ := laid_err (text := errT 7) h7 errN7 errY7
  have hs : ∀ k, k < 8 → ∃ s : ByteArray, W.cell? ((pick a0 a1 a2 a3 a4 a5 a6 a7) k) = some (.string s) ∧ s.data.toList = errT k := fun k hk => by
    match k, hk with
    | 0, _ => exact s0
    | 1, _ => exact s1
    | 2, _ => exact s2
    | 3, _ => exact s3
    | 4, _ => exact s4
    | 5, _ => exact s5
    | 6, _ => exact s6
    | 7, _ => exact s7
  refine ⟨(pick a0 a1 a2 a3 a4 a5 a6 a7), fun k hk => ?_, fun k hk => ?_, fun i j hi hj ne e => ?_⟩
  · match k, hk with
    | 0, _ => exact v0
    | 1, _ => exact v1
    | 2, _ => exact v2
    | 3, _ => exact v3
    | 4, _ => exact v4
    | 5, _ => exact v5
    | 6, _ => exact v6
    | 7, _ => exact v7
  · match k, hk with
    | 0, _ => exact b0
    | 1, _ => exact b1
    | 2, _ => exact b2
    | 3, _ => exact b3
    | 4, _ => exact b4
    | 5, _ => exact b5
    | 6, _ => exact b6
    | 7, _ => exact b7
  · obtain ⟨s, hs1, hs2⟩ := hs i hi
    obtain ⟨t, ht1, ht2⟩ := hs j hj
    rw [e] at hs1
    obtain rfl : s = t := by
      have := Option.some.inj (hs1.symm.trans ht1)
      cases this
      rfl
    exact errT_ne i hi j hj ne (hs2.symm.trans ht2)

/-! ### A world for the witness -/

/-- What a listed table holds, as cells. -/
def valsOf : DataW Unit → Array Value
  | .agg ds => (ds.map fun d => match d with | .lit (.int k z) => Value.int k z | _ => Value.bool false).toArray
  | _ => #[]
def putTab (d : DataW Unit) : Obj → Obj
  | .cells _ t frozen => .cells (valsOf d) t frozen
  | o => o
noncomputable def low : Nat := (World.holding Tryz.prog default ⟨#[], #[], []⟩).heap.size
noncomputable def putErr (k : Nat) : Obj → Obj
  | .cells _ t frozen => .cells #[.iface 159 (.pointer (some ⟨low + k, 0, none⟩))] t frozen
  | o => o
def errB (k : Nat) : Obj := .cells #[.string ⟨(errT k).toArray⟩] 181
noncomputable def w0 (os : Os) : World := World.holding Tryz.prog os ⟨#[errB 0, errB 1, errB 2, errB 3, errB 4, errB 5, errB 6, errB 7], #[], []⟩
/-- A world in which the listed variables hold what their initialisers lay. -/
noncomputable def laidWorld (os : Os) : World :=
  { w0 os with heap := ((((((((((((w0 os).heap).modify 0 (putErr 0)).modify 1 (putErr 1)).modify 2 (putErr 2)).modify 3 (putErr 3)).modify 4 (putErr 4)).modify 5 (putErr 5)).modify 6 (putErr 6)).modify 7 (putErr 7)).modify 8 (putTab Rows.laid_internal_strconv_uint64pow10)).modify 9 (putTab Rows.laid_math_bits_deBruijn32tab)).modify 10 (putTab Rows.laid_math_bits_deBruijn64tab) }

theorem trodVars_length {H : Type} {enc : TypeId × Value → H} {P : Program} {w : World} {sp : Nat → Bool} : ∀ {ns : List String} {gs : List (DataW H)} {ps : List MemPlace}, DataW.TrodVars enc P w sp ns gs ps → gs.length = ns.length
  | [], [], _, _ => rfl
  | [], _ :: _, _, h => h.elim
  | _ :: _, [], _, h => h.elim
  | _ :: _, _ :: _, _, ⟨_, _, _, _, _, _, _, _, _, _, hs, _⟩ => by simp [trodVars_length hs]

theorem list8 {α : Type} {l : List α} (h : l.length = 8) : ∃ a b c d e f g i, l = [a, b, c, d, e, f, g, i] := by
  match l, h with
  | [a, b, c, d, e, f, g, i], _ => exact ⟨a, b, c, d, e, f, g, i, rfl⟩

end Go.Proofs.YteifekoiognhmaaGreatDoor
