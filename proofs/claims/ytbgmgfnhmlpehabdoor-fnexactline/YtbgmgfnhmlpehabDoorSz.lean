/-
  The contracts of laws.szIntS, szBoolS, szOrder, szOrderS, szBook. Mine, by template (wip/gen.py).
-/
import Derived.Test.YtbgmgfnhmlpehabDoorBase
namespace Go.Proofs.YtbgmgfnhmlpehabDoor
open Go.RowKit

/-- What a 'sz' function answers: less than nothing, or what is left. -/
def szOk (left total r : Int) : Prop := r < 0 ∨ (0 ≤ r ∧ r + total = left)

def wOrd (x : Ord) : Nat := x.holder.size + x.secs.length
def wOrds : List Ord → Nat
  | [] => 0
  | x :: r => wOrd x + wOrds r

theorem wOrds_take (xs : List Ord) (k : Nat) (h : k < xs.length) : wOrds (xs.take (k + 1)) = wOrds (xs.take k) + wOrd (xs.getD k Ord.zero) := by
  induction xs generalizing k with
  | nil => simp at h
  | cons x r ih =>
    cases k with
    | zero => simp [wOrds]
    | succ k => simp only [List.take_succ_cons, wOrds, List.getD_cons_succ]; rw [ih k (by simpa using h)]; omega

theorem wOrds_mem (xs : List Ord) (k : Nat) (h : k < xs.length) : wOrd (xs.getD k Ord.zero) ≤ wOrds xs := by
  induction xs generalizing k with
  | nil => simp at h
  | cons x r ih =>
    cases k with
    | zero => simp [wOrds]
    | succ k => simp only [wOrds, List.getD_cons_succ]; have := ih k (by simpa using h); omega

set_option maxHeartbeats 400000 in
theorem szIntS_any (a : Option Addr) (n c : Nat) (left : Int) (w : World) (hn : n ≤ 9223372036854775807) (h0 : 0 ≤ left) (h1 : left ≤ 1048576) :
    Calls Tryd.prog 15 #[.slice a n c, .int .i64 left] w fun e w' => ∃ r, e = .returned (.int .i64 r) ∧ szOk left n r ∧ Below w.heap.size w w' := by
  go_enter Tryd.func15, Tryd.ntmps15
  by_cases h : left - n < 0
  · go_wp2
    go_ret
    exact ⟨_, rfl, Or.inl (by decide), Below.refl _ _⟩
  · go_wp2
    go_ret
    exact ⟨_, rfl, Or.inr ⟨by omega, by omega⟩, Below.refl _ _⟩

def wBk (B : Bk) : Nat := B.orders.length + wOrds B.orders + B.locked.length + B.occ.length

end Go.Proofs.YtbgmgfnhmlpehabDoor
