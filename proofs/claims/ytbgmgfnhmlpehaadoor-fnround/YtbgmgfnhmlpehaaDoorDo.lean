/-
  What an event does to a book, as plain notions. Mine, by template (wip/gen.py).
-/
import Derived.Test.YtbgmgfnhmlpehaaDoorEv
import Derived.Test.YtbgmgfnhmlpehaaDoorText
import Derived.Test.YtbgmgfnhmlpehaaDoorWho
import Derived.Test.YtbgmgfnhmlpehaaDoorMarks
namespace Go.Proofs.YtbgmgfnhmlpehaaDoor
open Go.RowKit

def setSt (x : Ord) (s : Int) : Ord := ⟨x.holder, x.kind, x.secs, s⟩
def setState (B : Bk) (i : Nat) (s : Int) : Bk := ⟨B.n, B.orders.set i (setSt (bX B i) s), B.locked, B.occ⟩
def addOrd (B : Bk) (x : Ord) : Bk := ⟨B.n, B.orders ++ [x], B.locked, B.occ⟩
def setLock (B : Bk) (i : Nat) (r : Bool) : Bk := ⟨B.n, B.orders, B.locked.set i r, B.occ⟩
def setOcc (B : Bk) (i : Nat) (r : Bool) : Bk := ⟨B.n, B.orders, B.locked, B.occ.set i r⟩
def zeroBk : Bk := ⟨0, [], [], []⟩

/-- An open order has one of its sections. -/
def Taken (B : Bk) (i : Nat) : Prop := ∃ j, j < B.orders.length ∧ OpenP (bX B j).state ∧ Meet (bX B j).secs.length (bX B i).secs.length (sV (bX B j)) (sV (bX B i))

open Classical in
noncomputable def giveC (B : Bk) (i : Nat) : Int :=
  if (bX B i).state ≠ 1 then 2 else if Taken B i then 3 else if Marked B.locked (bX B i) then 4 else if (bX B i).kind = 2 ∧ Marked B.occ (bX B i) then 5 else 0

open Classical in
noncomputable def doGive (B : Bk) (i : Nat) : Int × Bk := if giveC B i = 0 then (0, setState B i 2) else (giveC B i, B)
open Classical in
noncomputable def doRepeat (B : Bk) (i : Nat) (h t : ByteArray) : Int × Bk :=
  if (bX B i).state ≠ 2 then (2, B) else if (bX B i).holder ≠ h then (3, B) else if ¬ OrdT B i (bl t) then (4, setState B i 5) else (0, setState B i 3)
open Classical in
noncomputable def doBack (B : Bk) (i : Nat) (h : ByteArray) : Int × Bk :=
  if (bX B i).state ≠ 3 then (2, B) else if (bX B i).holder ≠ h then (3, B) else (0, setState B i 4)
noncomputable def doCancel (B : Bk) (i : Nat) : Int × Bk :=
  if (bX B i).state ≠ 1 ∧ (bX B i).state ≠ 2 then (2, B) else (0, setState B i 5)
open Classical in
noncomputable def doLock (B : Bk) (s : Int) : Int × Bk :=
  if ∃ j, j < B.orders.length ∧ Has (bX B j) s then (3, B) else (0, setLock B s.toNat true)
noncomputable def doWrite (B : Bk) (x : Ord) : Int × Bk := if B.orders.length < 200 then (0, addOrd B x) else (2, B)

open Classical in
noncomputable def doP (B : Bk) (E : Ev) : Int × Bk :=
  if ¬ EvOk B E then (1, zeroBk)
  else if E.op = 1 then doWrite B (eOrd E)
  else if E.op = 2 then doGive B E.of_.toNat
  else if E.op = 3 then doRepeat B E.of_.toNat E.holder E.text
  else if E.op = 4 then doBack B E.of_.toNat E.holder
  else if E.op = 5 then doCancel B E.of_.toNat
  else if E.op = 6 then doLock B E.of_
  else if E.op = 7 then (0, setLock B E.of_.toNat false)
  else if E.op = 8 then (0, setOcc B E.of_.toNat true)
  else (0, setOcc B E.of_.toNat false)

theorem doP_none {B : Bk} {E : Ev} (h : ¬ EvOk B E) : doP B E = (1, zeroBk) := by unfold doP; rw [if_pos h]
theorem doP_write {B : Bk} {E : Ev} (h : EvOk B E) (o : E.op = 1) : doP B E = doWrite B (eOrd E) := by unfold doP; rw [if_neg (fun n => n h), if_pos o]
theorem doP_give {B : Bk} {E : Ev} (h : EvOk B E) (o : E.op = 2) : doP B E = doGive B E.of_.toNat := by unfold doP; rw [if_neg (fun n => n h), if_neg (by omega), if_pos o]
theorem doP_repeat {B : Bk} {E : Ev} (h : EvOk B E) (o : E.op = 3) : doP B E = doRepeat B E.of_.toNat E.holder E.text := by unfold doP; rw [if_neg (fun n => n h), if_neg (by omega), if_neg (by omega), if_pos o]
theorem doP_back {B : Bk} {E : Ev} (h : EvOk B E) (o : E.op = 4) : doP B E = doBack B E.of_.toNat E.holder := by unfold doP; rw [if_neg (fun n => n h), if_neg (by omega), if_neg (by omega), if_neg (by omega), if_pos o]
theorem doP_cancel {B : Bk} {E : Ev} (h : EvOk B E) (o : E.op = 5) : doP B E = doCancel B E.of_.toNat := by unfold doP; rw [if_neg (fun n => n h), if_neg (by omega), if_neg (by omega), if_neg (by omega), if_neg (by omega), if_pos o]
theorem doP_lock {B : Bk} {E : Ev} (h : EvOk B E) (o : E.op = 6) : doP B E = doLock B E.of_ := by unfold doP; rw [if_neg (fun n => n h), if_neg (by omega), if_neg (by omega), if_neg (by omega), if_neg (by omega), if_neg (by omega), if_pos o]
theorem doP_unlock {B : Bk} {E : Ev} (h : EvOk B E) (o : E.op = 7) : doP B E = (0, setLock B E.of_.toNat false) := by unfold doP; rw [if_neg (fun n => n h), if_neg (by omega), if_neg (by omega), if_neg (by omega), if_neg (by omega), if_neg (by omega), if_neg (by omega), if_pos o]
theorem doP_occ {B : Bk} {E : Ev} (h : EvOk B E) (o : E.op = 8) : doP B E = (0, setOcc B E.of_.toNat true) := by unfold doP; rw [if_neg (fun n => n h), if_neg (by omega), if_neg (by omega), if_neg (by omega), if_neg (by omega), if_neg (by omega), if_neg (by omega), if_neg (by omega), if_pos o]
theorem doP_free {B : Bk} {E : Ev} (h : EvOk B E) (o : E.op = 9) : doP B E = (0, setOcc B E.of_.toNat false) := by unfold doP; rw [if_neg (fun n => n h), if_neg (by omega), if_neg (by omega), if_neg (by omega), if_neg (by omega), if_neg (by omega), if_neg (by omega), if_neg (by omega), if_neg (by omega)]

end Go.Proofs.YtbgmgfnhmlpehaaDoor
