/-
  A book among the arguments, opened. Mine, by template (wip/gen.py).
-/
import Derived.Test.YteifekoiognhmaaGreatDoorBaseZ
import Derived.Lib.SmallJoins
import Derived.Deep.Slices
import Derived.OpenShut
namespace Go.Proofs.YteifekoiognhmaaGreatDoor
open Go.RowKit Go.Deep Go.Joins

theorem cellsInt : Tryz.prog.cellsOf 3 = 1 := by kernel_rfl
theorem cellsBool : Tryz.prog.cellsOf 4 = 1 := by kernel_rfl
theorem plain_addr {w : World} {a : Addr} {n : Nat} {V : Nat → Value} (h : ∀ i, i < n → w.cell? (a.add i) = some (V i)) : ∃ b o, (0 < n → some a = some ⟨b, o, none⟩) ∧ ∀ i, i < n → w.cell? ⟨b, o + i, none⟩ = some (V i) := by
  obtain ⟨b, off, spot⟩ := a
  by_cases hp : 0 < n
  · have hspot : spot = none := by simpa [Addr.add] using World.cell?_spot (h 0 hp)
    subst hspot
    exact ⟨b, off, fun _ => rfl, fun j hj => by rw [← Go.WideShapes.add_plain]; exact h j hj⟩
  · exact ⟨b, off, fun h0 => absurd h0 hp, fun j hj => absurd (Nat.lt_of_le_of_lt (Nat.zero_le _) hj) hp⟩

section
variable {H : Type} {enc : TypeId × Value → H} {w : World} {base : Nat} {spare : Nat → Bool} {held : Bool} {fuel : Nat}

theorem open_bools {v : Value} {y : DataW H × List MemPlace} (h : DataW.trod enc Tryz.prog w base spare held fuel 35 [v] = some y) :
    ∃ ad c xs, v = .slice ad (List.length xs) c ∧ xs.length ≤ maxLen ∧ Cells w ad xs.length (bV xs) := by
  rcases open_slice1 Tryz.underlying35 cellsBool h with ⟨h0, _⟩ | ⟨a, len, cap, m, n, V, D, Pl, hcs, _, hl, hm, hmm, _, hx⟩
  · simp at h0
    exact ⟨none, 0, [], h0, by simp, 0, 0, fun h => absurd h (by simp), fun i hi => absurd hi (by simp)⟩
  · simp at hcs
    have hlm : len ≤ m := by rw [hmm]; split <;> omega
    obtain ⟨f, hf⟩ := choose_lt (α := Bool) (n := len) (p := fun i b => w.cell? (a.add i) = some (.bool b)) (fun i hi => by
      obtain ⟨h1, h2⟩ := hx i (by omega)
      obtain ⟨b, e, _⟩ := DataW.trod_bool Tryz.underlying4 h2
      simp at e
      exact ⟨b, by rw [h1, e]⟩)
    have el : ((List.range len).map f).length = len := by simp
    obtain ⟨b, o, q1, q2⟩ := plain_addr hf
    refine ⟨some a, cap, (List.range len).map f, by rw [el]; exact hcs, by rw [el]; omega, b, o, by rw [el]; exact q1, fun i hi => ?_⟩
    rw [el] at hi
    rw [q2 i hi]
    simp [bV, hi]

theorem open_ints' {v : Value} {y : DataW H × List MemPlace} (h : DataW.trod enc Tryz.prog w base spare held fuel 30 [v] = some y) :
    ∃ ad c xs, v = .slice ad (List.length xs) c ∧ xs.length ≤ maxLen ∧ Cells w ad xs.length (iV xs) := by
  rcases open_slice1 Tryz.underlying30 cellsInt h with ⟨h0, _⟩ | ⟨a, len, cap, m, n, V, D, Pl, hcs, _, hl, hm, hmm, _, hx⟩
  · simp at h0
    exact ⟨none, 0, [], h0, by simp, 0, 0, fun h => absurd h (by simp), fun i hi => absurd hi (by simp)⟩
  · simp at hcs
    have hlm : len ≤ m := by rw [hmm]; split <;> omega
    obtain ⟨f, hf⟩ := choose_lt (α := Int) (n := len) (p := fun i b => w.cell? (a.add i) = some (.int .i64 b)) (fun i hi => by
      obtain ⟨h1, h2⟩ := hx i (by omega)
      obtain ⟨b, e, _⟩ := DataW.trod_int Tryz.underlying3 h2
      simp at e
      exact ⟨b, by rw [h1, e]⟩)
    have el : ((List.range len).map f).length = len := by simp
    obtain ⟨b, o, q1, q2⟩ := plain_addr hf
    refine ⟨some a, cap, (List.range len).map f, by rw [el]; exact hcs, by rw [el]; omega, b, o, by rw [el]; exact q1, fun i hi => ?_⟩
    rw [el] at hi
    rw [q2 i hi]
    simp [iV, hi]

/-- What the form's reading says of an order's sizes. -/
def OrdWf (x : Ord) : Prop := x.secs.length ≤ maxLen ∧ x.holder.size ≤ maxLen

theorem list4 {α : Type} {l : List α} (h : l.length = 4) : ∃ a b c d, l = [a, b, c, d] := by
  match l, h with
  | [a, b, c, d], _ => exact ⟨a, b, c, d, rfl⟩

/-- What the form's reading says of a book's sizes. -/
structure BkWf (B : Bk) : Prop where
  n0 : -9223372036854775808 ≤ B.n
  n1 : B.n ≤ 9223372036854775807
  o : B.orders.length ≤ maxLen
  x : ∀ i, i < B.orders.length → OrdWf (B.orders.getD i Ord.zero)
  l : B.locked.length ≤ maxLen
  c : B.occ.length ≤ maxLen

end

end Go.Proofs.YteifekoiognhmaaGreatDoor
