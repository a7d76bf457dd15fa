/-
  Events, as lists; which can be told of a book. Mine, by template (wip/gen.py).
-/
import Derived.Test.YtbgmgfnhmlpehaaDoorRight
import Derived.Test.YtbgmgfnhmlpehaaDoorSz
namespace Go.Proofs.YtbgmgfnhmlpehaaDoor
open Go.RowKit

/-- An event's content. -/
structure Ev where
  op : Int
  of_ : Int
  holder : ByteArray
  kind : Int
  secs : List Int
  text : ByteArray

/-- The order that an event writes. -/
def eOrd (E : Ev) : Ord := ⟨E.holder, E.kind, E.secs, 1⟩

/-- An event by value. -/
def EvAt (w : World) (v : Value) (E : Ev) : Prop :=
  ∃ ad c, v = .agg #[.int .i64 E.op, .int .i64 E.of_, .string E.holder, .int .i64 E.kind, .slice ad E.secs.length c, .string E.text] ∧ Cells w ad E.secs.length (iV E.secs)

theorem EvAt.below {w w' : World} {v : Value} {E : Ev} (h : EvAt w v E) (hb : Below w.heap.size w w') : EvAt w' v E := by
  obtain ⟨ad, c, e, h1⟩ := h
  exact ⟨ad, c, e, h1.below hb⟩

/-- The fields of an event of one order or one section. -/
def Bare (E : Ev) : Prop := E.kind = 0 ∧ E.secs.length = 0

def EvForm (B : Bk) (E : Ev) : Prop :=
  (E.op = 1 ∧ E.of_ = 0 ∧ NameOk E.holder ∧ In E.kind 1 2 ∧ ListOk E.secs.length (sV (eOrd E)) B.n ∧ E.text.size = 0) ∨
  ((E.op = 2 ∨ E.op = 5) ∧ In E.of_ 0 (B.orders.length - 1) ∧ E.holder.size = 0 ∧ E.kind = 0 ∧ E.secs.length = 0 ∧ E.text.size = 0) ∨
  (E.op = 3 ∧ In E.of_ 0 (B.orders.length - 1) ∧ NameOk E.holder ∧ E.kind = 0 ∧ E.secs.length = 0 ∧ E.text.size ≤ 200) ∨
  (E.op = 4 ∧ In E.of_ 0 (B.orders.length - 1) ∧ NameOk E.holder ∧ E.kind = 0 ∧ E.secs.length = 0 ∧ E.text.size = 0) ∨
  (In E.op 6 9 ∧ In E.of_ 0 (B.n - 1) ∧ E.holder.size = 0 ∧ E.kind = 0 ∧ E.secs.length = 0 ∧ E.text.size = 0)

def EvOk (B : Bk) (E : Ev) : Prop := Right B ∧ EvForm B E

theorem EvOk.at1 {B : Bk} {E : Ev} (h : EvOk B E) (o : E.op = 1) : E.of_ = 0 ∧ NameOk E.holder ∧ In E.kind 1 2 ∧ ListOk E.secs.length (sV (eOrd E)) B.n ∧ E.text.size = 0 := by
  rcases h.2 with q | q | q | q | q
  · exact q.2
  · omega
  · omega
  · omega
  · have := q.1; unfold In at this; omega
theorem EvOk.at25 {B : Bk} {E : Ev} (h : EvOk B E) (o : E.op = 2 ∨ E.op = 5) : In E.of_ 0 (B.orders.length - 1) ∧ E.holder.size = 0 ∧ E.kind = 0 ∧ E.secs.length = 0 ∧ E.text.size = 0 := by
  rcases h.2 with q | q | q | q | q
  · omega
  · exact q.2
  · omega
  · omega
  · have := q.1; unfold In at this; omega
theorem EvOk.at3 {B : Bk} {E : Ev} (h : EvOk B E) (o : E.op = 3) : In E.of_ 0 (B.orders.length - 1) ∧ NameOk E.holder ∧ E.kind = 0 ∧ E.secs.length = 0 ∧ E.text.size ≤ 200 := by
  rcases h.2 with q | q | q | q | q
  · omega
  · omega
  · exact q.2
  · omega
  · have := q.1; unfold In at this; omega
theorem EvOk.at4 {B : Bk} {E : Ev} (h : EvOk B E) (o : E.op = 4) : In E.of_ 0 (B.orders.length - 1) ∧ NameOk E.holder ∧ E.kind = 0 ∧ E.secs.length = 0 ∧ E.text.size = 0 := by
  rcases h.2 with q | q | q | q | q
  · omega
  · omega
  · omega
  · exact q.2
  · have := q.1; unfold In at this; omega
theorem EvOk.at6 {B : Bk} {E : Ev} (h : EvOk B E) (o : In E.op 6 9) : In E.of_ 0 (B.n - 1) ∧ E.holder.size = 0 ∧ E.kind = 0 ∧ E.secs.length = 0 ∧ E.text.size = 0 := by
  unfold In at o
  rcases h.2 with q | q | q | q | q
  · omega
  · omega
  · omega
  · omega
  · exact q.2
theorem EvOk.some {B : Bk} {E : Ev} (h : EvOk B E) : In E.op 1 9 := by
  unfold In
  rcases h.2 with q | q | q | q | q
  · omega
  · omega
  · omega
  · omega
  · have := q.1; unfold In at this; omega

theorem str_eq_nil (s : ByteArray) : s = ByteArray.empty ↔ s.size = 0 := by
  constructor
  · rintro rfl; rfl
  · intro h
    apply ByteArray.ext
    exact Array.eq_empty_of_size_eq_zero h
theorem isE_t {s : ByteArray} (h : s.size = 0) : s.toList.isEmpty = true := by
  rw [← decide_eq_emptyBytes]
  exact decide_eq_true ((str_eq_nil s).2 h)
theorem isE_f {s : ByteArray} (h : ¬ s.size = 0) : s.toList.isEmpty = false := by
  rw [← decide_eq_emptyBytes]
  exact decide_eq_false (fun e => h ((str_eq_nil s).1 e))

theorem len0_t {n : Nat} (h : n = 0) : ((n : Int) == 0) = true := by subst h; rfl
theorem len0_f {n : Nat} (h : ¬ n = 0) : ((n : Int) == 0) = false := beq_eq_false_iff_ne.2 (by omega)

/-- The weight of an event. -/
def wEv (E : Ev) : Nat := E.holder.size + E.secs.length + E.text.size

end Go.Proofs.YtbgmgfnhmlpehaaDoor
