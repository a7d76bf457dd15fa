import Derived.Test.YtbcfmehcghkpiaaDoorRight
import Derived.Test.YtbcfmehcghkpiaaDoorBaseZ
import Derived.Test.YtbcfmehcghkpiaaDoorIBook
import Derived.Test.YtbcfmehcghkpiaaDoorText
import Derived.Test.YtbcfmehcghkpiaaDoorMarks
/-
  Events, as lists; which can be told of a book. Mine, by template (wip/gen.py).
-/
namespace Go.Proofs.YtbcfmehcghkpiaaDoor
open Go.RowKit

/-- An event's content. -/
structure Ev where
  op : Int
  of_ : Int
  holder : ByteArray
  kind : Int
  secs : List Int
  text : ByteArray

/-- The order that an event writes. -/
def eOrd (E : Ev) : Ord := ⟨E.holder, E.kind, E.secs, 1⟩

/-- An event by value. -/
def EvAt (w : World) (v : Value) (E : Ev) : Prop :=
  ∃ ad c, v = .agg #[.int .i64 E.op, .int .i64 E.of_, .string E.holder, .int .i64 E.kind, .slice ad E.secs.length c, .string E.text] ∧ Cells w ad E.secs.length (iV E.secs)

theorem EvAt.below {w w' : World} {v : Value} {E : Ev} (h : EvAt w v E) (hb : Below w.heap.size w w') : EvAt w' v E := by
  obtain ⟨ad, c, e, h1⟩ := h
  exact ⟨ad, c, e, h1.below hb⟩

/-- The fields of an event of one order or one section. -/
def Bare (E : Ev) : Prop := E.kind = 0 ∧ E.secs.length = 0

def EvForm (B : Bk) (E : Ev) : Prop :=
  (E.op = 1 ∧ E.of_ = 0 ∧ NameOk E.holder ∧ In E.kind 1 2 ∧ ListOk E.secs.length (sV (eOrd E)) B.n ∧ E.text.size = 0) ∨
  ((E.op = 2 ∨ E.op = 5) ∧ In E.of_ 0 (B.orders.length - 1) ∧ E.holder.size = 0 ∧ E.kind = 0 ∧ E.secs.length = 0 ∧ E.text.size = 0) ∨
  (E.op = 3 ∧ In E.of_ 0 (B.orders.length - 1) ∧ NameOk E.holder ∧ E.kind = 0 ∧ E.secs.length = 0 ∧ E.text.size ≤ 200) ∨
  (E.op = 4 ∧ In E.of_ 0 (B.orders.length - 1) ∧ NameOk E.holder ∧ E.kind = 0 ∧ E.secs.length = 0 ∧ E.text.size = 0) ∨
  (In E.op 6 9 ∧ In E.of_ 0 (B.n - 1) ∧ E.holder.size = 0 ∧ E.kind = 0 ∧ E.secs.length = 0 ∧ E.text.size = 0)

def EvOk (B : Bk) (E : Ev) : Prop := Right B ∧ EvForm B E

theorem EvOk.at1 {B : Bk} {E : Ev} (h : EvOk B E) (o : E.op = 1) : E.of_ = 0 ∧ NameOk E.holder ∧ In E.kind 1 2 ∧ ListOk E.secs.length (sV (eOrd E)) B.n ∧ E.text.size = 0 := by
  rcases h.2 with q | q | q | q | q
  · exact q.2
  · omega
  · omega
  · omega
  · have := q.1; unfold In at this; omega
theorem EvOk.at25 {B : Bk} {E : Ev} (h : EvOk B E) (o : E.op = 2 ∨ E.op = 5) : In E.of_ 0 (B.orders.length - 1) ∧ E.holder.size = 0 ∧ E.kind = 0 ∧ E.secs.length = 0 ∧ E.text.size = 0 := by
  rcases h.2 with q | q | q | q | q
  · omega
  · exact q.2
  · omega
  · omega
  · have := q.1; unfold In at this; omega
theorem EvOk.at3 {B : Bk} {E : Ev} (h : EvOk B E) (o : E.op = 3) : In E.of_ 0 (B.orders.length - 1) ∧ NameOk E.holder ∧ E.kind = 0 ∧ E.secs.length = 0 ∧ E.text.size ≤ 200 := by
  rcases h.2 with q | q | q | q | q
  · omega
  · omega
  · exact q.2
  · omega
  · have := q.1; unfold In at this; omega
theorem EvOk.at4 {B : Bk} {E : Ev} (h : EvOk B E) (o : E.op = 4) : In E.of_ 0 (B.orders.length - 1) ∧ NameOk E.holder ∧ E.kind = 0 ∧ E.secs.length = 0 ∧ E.text.size = 0 := by
  rcases h.2 with q | q | q | q | q
  · omega
  · omega
  · omega
  · exact q.2
  · have := q.1; unfold In at this; omega
theorem EvOk.at6 {B : Bk} {E : Ev} (h : EvOk B E) (o : In E.op 6 9) : In E.of_ 0 (B.n - 1) ∧ E.holder.size = 0 ∧ E.kind = 0 ∧ E.secs.length = 0 ∧ E.text.size = 0 := by
  unfold In at o
  rcases h.2 with q | q | q | q | q
  · omega
  · omega
  · omega
  · omega
  · exact q.2
theorem EvOk.some {B : Bk} {E : Ev} (h : EvOk B E) : In E.op 1 9 := by
  unfold In
  rcases h.2 with q | q | q | q | q
  · omega
  · omega
  · omega
  · omega
  · have := q.1; unfold In at this; omega

theorem str_eq_nil (s : ByteArray) : s = ByteArray.empty ↔ s.size = 0 := by
  constructor
  · rintro rfl; rfl
  · intro h
    apply ByteArray.ext
    exact Array.eq_empty_of_size_eq_zero h
theorem isE_t {s : ByteArray} (h : s.size = 0) : s.toList.isEmpty = true := by
  rw [← decide_eq_emptyBytes]
  exact decide_eq_true ((str_eq_nil s).2 h)
theorem isE_f {s : ByteArray} (h : ¬ s.size = 0) : s.toList.isEmpty = false := by
  rw [← decide_eq_emptyBytes]
  exact decide_eq_false (fun e => h ((str_eq_nil s).1 e))

theorem len0_t {n : Nat} (h : n = 0) : ((n : Int) == 0) = true := by subst h; rfl
theorem len0_f {n : Nat} (h : ¬ n = 0) : ((n : Int) == 0) = false := beq_eq_false_iff_ne.2 (by omega)

/-- The weight of an event. -/
def wEv (E : Ev) : Nat := E.holder.size + E.secs.length + E.text.size

end Go.Proofs.YtbcfmehcghkpiaaDoor

/-
  The contracts of spec.Who, impl.Who. Mine, by template (wip/gen.py).
-/
namespace Go.Proofs.YtbcfmehcghkpiaaDoor
open Go.RowKit

/-- Order i has section s. -/
def Has (x : Ord) (s : Int) : Prop := OpenP x.state ∧ HasS x x.secs.length s

def WhoIs (B : Bk) (s r : Int) : Prop :=
  (¬ Right B ∧ r = -1) ∨ (Right B ∧ ∃ i : Nat, i < B.orders.length ∧ r = i ∧ Has (bX B i) s) ∨ (Right B ∧ r = -1 ∧ ∀ i, i < B.orders.length → ¬ Has (bX B i) s)

theorem WhoIs.det {B : Bk} {s r q : Int} (h : WhoIs B s r) (k : WhoIs B s q) : r = q := by
  rcases h with ⟨h1, h2⟩ | ⟨h1, i, h2, h3, h4⟩ | ⟨h1, h2, h3⟩ <;> rcases k with ⟨k1, k2⟩ | ⟨k1, j, k2, k3, k4⟩ | ⟨k1, k2, k3⟩
  · omega
  · exact absurd k1 h1
  · exact absurd k1 h1
  · exact absurd h1 k1
  · have hij : i = j := by
      obtain ⟨o1, a, a1, a2⟩ := h4
      obtain ⟨o2, b, b1, b2⟩ := k4
      rcases Nat.lt_trichotomy i j with hlt | e | hlt
      · exact absurd ⟨o2, o1, b, a, b1, a1, by rw [a2, b2]⟩ (h1.2.2.1 j k2 i hlt)
      · exact e
      · exact absurd ⟨o1, o2, a, b, a1, b1, by rw [a2, b2]⟩ (h1.2.2.1 i h2 j hlt)
    omega
  · exact absurd h4 (k3 i h2)
  · exact absurd h1 k1
  · exact absurd k4 (h3 j k2)
  · omega

def RetW (e : Ending) (B : Bk) (s : Int) : Prop := ∃ r, e = .returned (.int .i64 r) ∧ WhoIs B s r

theorem one_cell (w : World) (u : Value) (t : TypeId) : Cells (w.alloc (.cells #[u] t)) (some ⟨w.heap.size, 0, none⟩) 1 (fun _ => u) :=
  ⟨w.heap.size, 0, fun _ => rfl, fun i hi => by
    obtain rfl : i = 0 := by omega
    simp [go_sem]⟩

theorem meet_one {n : Nat} {V : Nat → Int} {s : Int} : Meet n 1 V (fun _ => s) ↔ ∃ q, q < n ∧ V q = s :=
  ⟨fun ⟨i, _, h1, _, h3⟩ => ⟨i, h1, h3⟩, fun ⟨i, h1, h3⟩ => ⟨i, 0, h1, by omega, h3⟩⟩

theorem whoIs_some {B : Bk} {s v : Int} {F : Int → Option Int} (hr : Right B) (h : Inv (bX B) B.orders.length 0 F) (e : F s = some v) : WhoIs B s v := by
  obtain ⟨i, hv, p1, p2⟩ := h.1 _ _ e
  rcases p2 with ⟨a, b⟩ | ⟨_, q, b, _⟩
  · exact Or.inr (Or.inl ⟨hr, i, a, hv, p1, b⟩)
  · omega

theorem whoIs_none {B : Bk} {s : Int} {F : Int → Option Int} (hr : Right B) (h : Inv (bX B) B.orders.length 0 F) (e : F s = none) : WhoIs B s (-1) :=
  Or.inr (Or.inr ⟨hr, rfl, fun i hi u => by
    have := h.2 s i ⟨u.1, Or.inl ⟨hi, u.2⟩⟩
    rw [e] at this
    cases this⟩)

end Go.Proofs.YtbcfmehcghkpiaaDoor

/-
  What an event does to a book, as plain notions. Mine, by template (wip/gen.py).
-/
namespace Go.Proofs.YtbcfmehcghkpiaaDoor
open Go.RowKit

def setSt (x : Ord) (s : Int) : Ord := ⟨x.holder, x.kind, x.secs, s⟩
def setState (B : Bk) (i : Nat) (s : Int) : Bk := ⟨B.n, B.orders.set i (setSt (bX B i) s), B.locked, B.occ⟩
def addOrd (B : Bk) (x : Ord) : Bk := ⟨B.n, B.orders ++ [x], B.locked, B.occ⟩
def setLock (B : Bk) (i : Nat) (r : Bool) : Bk := ⟨B.n, B.orders, B.locked.set i r, B.occ⟩
def setOcc (B : Bk) (i : Nat) (r : Bool) : Bk := ⟨B.n, B.orders, B.locked, B.occ.set i r⟩
def zeroBk : Bk := ⟨0, [], [], []⟩

/-- An open order has one of its sections. -/
def Taken (B : Bk) (i : Nat) : Prop := ∃ j, j < B.orders.length ∧ OpenP (bX B j).state ∧ Meet (bX B j).secs.length (bX B i).secs.length (sV (bX B j)) (sV (bX B i))

open Classical in
noncomputable def giveC (B : Bk) (i : Nat) : Int :=
  if (bX B i).state ≠ 1 then 2 else if Taken B i then 3 else if Marked B.locked (bX B i) then 4 else if (bX B i).kind = 2 ∧ Marked B.occ (bX B i) then 5 else 0

open Classical in
noncomputable def doGive (B : Bk) (i : Nat) : Int × Bk := if giveC B i = 0 then (0, setState B i 2) else (giveC B i, B)
open Classical in
noncomputable def doRepeat (B : Bk) (i : Nat) (h t : ByteArray) : Int × Bk :=
  if (bX B i).state ≠ 2 then (2, B) else if (bX B i).holder ≠ h then (3, B) else if ¬ OrdT B i (bl t) then (4, setState B i 5) else (0, setState B i 3)
open Classical in
noncomputable def doBack (B : Bk) (i : Nat) (h : ByteArray) : Int × Bk :=
  if (bX B i).state ≠ 3 then (2, B) else if (bX B i).holder ≠ h then (3, B) else (0, setState B i 4)
noncomputable def doCancel (B : Bk) (i : Nat) : Int × Bk :=
  if (bX B i).state ≠ 1 ∧ (bX B i).state ≠ 2 then (2, B) else (0, setState B i 5)
open Classical in
noncomputable def doLock (B : Bk) (s : Int) : Int × Bk :=
  if ∃ j, j < B.orders.length ∧ Has (bX B j) s then (3, B) else (0, setLock B s.toNat true)
noncomputable def doWrite (B : Bk) (x : Ord) : Int × Bk := if B.orders.length < 200 then (0, addOrd B x) else (2, B)

open Classical in
noncomputable def doP (B : Bk) (E : Ev) : Int × Bk :=
  if ¬ EvOk B E then (1, zeroBk)
  else if E.op = 1 then doWrite B (eOrd E)
  else if E.op = 2 then doGive B E.of_.toNat
  else if E.op = 3 then doRepeat B E.of_.toNat E.holder E.text
  else if E.op = 4 then doBack B E.of_.toNat E.holder
  else if E.op = 5 then doCancel B E.of_.toNat
  else if E.op = 6 then doLock B E.of_
  else if E.op = 7 then (0, setLock B E.of_.toNat false)
  else if E.op = 8 then (0, setOcc B E.of_.toNat true)
  else (0, setOcc B E.of_.toNat false)

theorem doP_none {B : Bk} {E : Ev} (h : ¬ EvOk B E) : doP B E = (1, zeroBk) := by unfold doP; rw [if_pos h]
theorem doP_write {B : Bk} {E : Ev} (h : EvOk B E) (o : E.op = 1) : doP B E = doWrite B (eOrd E) := by unfold doP; rw [if_neg (fun n => n h), if_pos o]
theorem doP_give {B : Bk} {E : Ev} (h : EvOk B E) (o : E.op = 2) : doP B E = doGive B E.of_.toNat := by unfold doP; rw [if_neg (fun n => n h), if_neg (by omega), if_pos o]
theorem doP_repeat {B : Bk} {E : Ev} (h : EvOk B E) (o : E.op = 3) : doP B E = doRepeat B E.of_.toNat E.holder E.text := by unfold doP; rw [if_neg (fun n => n h), if_neg (by omega), if_neg (by omega), if_pos o]
theorem doP_back {B : Bk} {E : Ev} (h : EvOk B E) (o : E.op = 4) : doP B E = doBack B E.of_.toNat E.holder := by unfold doP; rw [if_neg (fun n => n h), if_neg (by omega), if_neg (by omega), if_neg (by omega), if_pos o]
theorem doP_cancel {B : Bk} {E : Ev} (h : EvOk B E) (o : E.op = 5) : doP B E = doCancel B E.of_.toNat := by unfold doP; rw [if_neg (fun n => n h), if_neg (by omega), if_neg (by omega), if_neg (by omega), if_neg (by omega), if_pos o]
theorem doP_lock {B : Bk} {E : Ev} (h : EvOk B E) (o : E.op = 6) : doP B E = doLock B E.of_ := by unfold doP; rw [if_neg (fun n => n h), if_neg (by omega), if_neg (by omega), if_neg (by omega), if_neg (by omega), if_neg (by omega), if_pos o]
theorem doP_unlock {B : Bk} {E : Ev} (h : EvOk B E) (o : E.op = 7) : doP B E = (0, setLock B E.of_.toNat false) := by unfold doP; rw [if_neg (fun n => n h), if_neg (by omega), if_neg (by omega), if_neg (by omega), if_neg (by omega), if_neg (by omega), if_neg (by omega), if_pos o]
theorem doP_occ {B : Bk} {E : Ev} (h : EvOk B E) (o : E.op = 8) : doP B E = (0, setOcc B E.of_.toNat true) := by unfold doP; rw [if_neg (fun n => n h), if_neg (by omega), if_neg (by omega), if_neg (by omega), if_neg (by omega), if_neg (by omega), if_neg (by omega), if_neg (by omega), if_pos o]
theorem doP_free {B : Bk} {E : Ev} (h : EvOk B E) (o : E.op = 9) : doP B E = (0, setOcc B E.of_.toNat false) := by unfold doP; rw [if_neg (fun n => n h), if_neg (by omega), if_neg (by omega), if_neg (by omega), if_neg (by omega), if_neg (by omega), if_neg (by omega), if_neg (by omega), if_neg (by omega)]

end Go.Proofs.YtbcfmehcghkpiaaDoor
