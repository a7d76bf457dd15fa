/-
  A book among the arguments, opened. Mine, by template (wip/gen.py).
-/
import Derived.Test.YtbgmgfnhmlpehaaDoorBase
import Derived.Lib.SmallJoins
import Derived.Deep.Slices
import Derived.OpenShut
namespace Go.Proofs.YtbgmgfnhmlpehaaDoor
open Go.RowKit Go.Deep Go.Joins

theorem cellsInt : Tryd.prog.cellsOf 3 = 1 := by kernel_rfl
theorem cellsBool : Tryd.prog.cellsOf 4 = 1 := by kernel_rfl
theorem cellsLOrder : Tryd.prog.cellsOf 109 = 4 := by kernel_rfl
theorem cellsLBook : Tryd.prog.cellsOf 47 = 4 := by kernel_rfl

theorem plain_addr {w : World} {a : Addr} {n : Nat} {V : Nat → Value} (h : ∀ i, i < n → w.cell? (a.add i) = some (V i)) : ∃ b o, (0 < n → some a = some ⟨b, o, none⟩) ∧ ∀ i, i < n → w.cell? ⟨b, o + i, none⟩ = some (V i) := by
  obtain ⟨b, off, spot⟩ := a
  by_cases hp : 0 < n
  · have hspot : spot = none := by simpa [Addr.add] using World.cell?_spot (h 0 hp)
    subst hspot
    exact ⟨b, off, fun _ => rfl, fun j hj => by rw [← Go.WideShapes.add_plain]; exact h j hj⟩
  · exact ⟨b, off, fun h0 => absurd h0 hp, fun j hj => absurd (Nat.lt_of_le_of_lt (Nat.zero_le _) hj) hp⟩

section
variable {H : Type} {enc : TypeId × Value → H} {w : World} {base : Nat} {spare : Nat → Bool} {held : Bool} {fuel : Nat}

theorem open_bools {v : Value} {y : DataW H × List MemPlace} (h : DataW.trod enc Tryd.prog w base spare held fuel 27 [v] = some y) :
    ∃ ad c xs, v = .slice ad (List.length xs) c ∧ xs.length ≤ maxLen ∧ Cells w ad xs.length (bV xs) := by
  rcases open_slice1 Tryd.underlying27 cellsBool h with ⟨h0, _⟩ | ⟨a, len, cap, m, n, V, D, Pl, hcs, _, hl, hm, hmm, _, hx⟩
  · simp at h0
    exact ⟨none, 0, [], h0, by simp, 0, 0, fun h => absurd h (by simp), fun i hi => absurd hi (by simp)⟩
  · simp at hcs
    have hlm : len ≤ m := by rw [hmm]; split <;> omega
    obtain ⟨f, hf⟩ := choose_lt (α := Bool) (n := len) (p := fun i b => w.cell? (a.add i) = some (.bool b)) (fun i hi => by
      obtain ⟨h1, h2⟩ := hx i (by omega)
      obtain ⟨b, e, _⟩ := DataW.trod_bool Tryd.underlying4 h2
      simp at e
      exact ⟨b, by rw [h1, e]⟩)
    have el : ((List.range len).map f).length = len := by simp
    obtain ⟨b, o, q1, q2⟩ := plain_addr hf
    refine ⟨some a, cap, (List.range len).map f, by rw [el]; exact hcs, by rw [el]; omega, b, o, by rw [el]; exact q1, fun i hi => ?_⟩
    rw [el] at hi
    rw [q2 i hi]
    simp [bV, hi]

theorem open_ints' {v : Value} {y : DataW H × List MemPlace} (h : DataW.trod enc Tryd.prog w base spare held fuel 35 [v] = some y) :
    ∃ ad c xs, v = .slice ad (List.length xs) c ∧ xs.length ≤ maxLen ∧ Cells w ad xs.length (iV xs) := by
  rcases open_slice1 Tryd.underlying35 cellsInt h with ⟨h0, _⟩ | ⟨a, len, cap, m, n, V, D, Pl, hcs, _, hl, hm, hmm, _, hx⟩
  · simp at h0
    exact ⟨none, 0, [], h0, by simp, 0, 0, fun h => absurd h (by simp), fun i hi => absurd hi (by simp)⟩
  · simp at hcs
    have hlm : len ≤ m := by rw [hmm]; split <;> omega
    obtain ⟨f, hf⟩ := choose_lt (α := Int) (n := len) (p := fun i b => w.cell? (a.add i) = some (.int .i64 b)) (fun i hi => by
      obtain ⟨h1, h2⟩ := hx i (by omega)
      obtain ⟨b, e, _⟩ := DataW.trod_int Tryd.underlying3 h2
      simp at e
      exact ⟨b, by rw [h1, e]⟩)
    have el : ((List.range len).map f).length = len := by simp
    obtain ⟨b, o, q1, q2⟩ := plain_addr hf
    refine ⟨some a, cap, (List.range len).map f, by rw [el]; exact hcs, by rw [el]; omega, b, o, by rw [el]; exact q1, fun i hi => ?_⟩
    rw [el] at hi
    rw [q2 i hi]
    simp [iV, hi]

/-- What the form's reading says of an order's sizes. -/
def OrdWf (x : Ord) : Prop := x.secs.length ≤ maxLen ∧ x.holder.size ≤ maxLen

theorem list4 {α : Type} {l : List α} (h : l.length = 4) : ∃ a b c d, l = [a, b, c, d] := by
  match l, h with
  | [a, b, c, d], _ => exact ⟨a, b, c, d, rfl⟩

set_option maxRecDepth 100000 in
theorem open_order {cs : List Value} {y : DataW H × List MemPlace} (h : DataW.trod enc Tryd.prog w base spare held fuel 109 cs = some y) :
    ∃ x ad c, cs = [.string (Ord.holder x), .int .i64 x.kind, .slice ad x.secs.length c, .int .i64 x.state] ∧ OrdWf x ∧ Cells w ad x.secs.length (iV x.secs) := by
  obtain ⟨y0, y1, y2, y3, n, _, hl, h0, h1, h2, h3⟩ := trod_struct4 Tryd.underlying109 h
  rw [cellsLOrder] at hl
  obtain ⟨a, b, c, d, rfl⟩ := list4 hl
  have g0 : DataW.trod enc Tryd.prog w base spare held n 9 [a] = some y0 := h0
  have g1 : DataW.trod enc Tryd.prog w base spare held n 3 [b] = some y1 := h1
  have g2 : DataW.trod enc Tryd.prog w base spare held n 35 [c] = some y2 := h2
  have g3 : DataW.trod enc Tryd.prog w base spare held n 3 [d] = some y3 := h3
  obtain ⟨s, e0, _, hs⟩ := DataW.trod_string Tryd.underlying9 g0
  obtain ⟨k, e1, _, _⟩ := DataW.trod_int Tryd.underlying3 g1
  obtain ⟨ad, cc, xs, e2, hx, hC⟩ := open_ints' g2
  obtain ⟨t, e3, _, _⟩ := DataW.trod_int Tryd.underlying3 g3
  simp at e0 e1 e3
  exact ⟨⟨s, k, xs, t⟩, ad, cc, by rw [e0, e1, e2, e3], ⟨hx, hs⟩, hC⟩

theorem open_orders {v : Value} {y : DataW H × List MemPlace} (h : DataW.trod enc Tryd.prog w base spare held fuel 45 [v] = some y) :
    ∃ ad c xs, v = .slice ad (List.length xs) c ∧ xs.length ≤ maxLen ∧ (∀ i, i < xs.length → OrdWf (xs.getD i Ord.zero)) ∧ OrdersAt w ad xs := by
  rcases open_slice Tryd.underlying45 h with ⟨h0, _⟩ | ⟨a, len, cap, m, n, D, Pl, hcs, _, hl, hm, hmm, _, hx⟩
  · simp at h0
    exact ⟨none, 0, [], h0, by simp, fun i hi => absurd hi (by simp), 0, 0, fun h => absurd h (by simp), fun i hi => absurd hi (by simp)⟩
  · simp at hcs
    have hlm : len ≤ m := by rw [hmm]; split <;> omega
    rw [cellsLOrder] at hx
    have hx' : ∀ i, i < len → ∃ x : Ord, OrdWf x ∧ ∃ ad c, Cells w ad x.secs.length (iV x.secs) ∧ ∀ j, j < 4 → w.cell? ((a.add (i * 4)).add j) = ([.string x.holder, .int .i64 x.kind, .slice ad x.secs.length c, .int .i64 x.state] : List Value)[j]? := fun i hi => by
      obtain ⟨cs', h1, h2⟩ := hx i (by omega)
      obtain ⟨x, ad, c, rfl, q1, q2⟩ := open_order h2
      exact ⟨x, q1, ad, c, q2, (World.cells?_some h1).2.2⟩
    have : Inhabited Ord := ⟨Ord.zero⟩
    obtain ⟨f, hf⟩ := choose_lt (α := Ord) (n := len) (p := fun i x => OrdWf x ∧ ∃ ad c, Cells w ad x.secs.length (iV x.secs) ∧ ∀ j, j < 4 → w.cell? ((a.add (i * 4)).add j) = ([.string x.holder, .int .i64 x.kind, .slice ad x.secs.length c, .int .i64 x.state] : List Value)[j]?) hx'
    have el : ((List.range len).map f).length = len := by simp
    have eg : ∀ i, i < len → ((List.range len).map f).getD i Ord.zero = f i := fun i hi => by simp [hi]
    obtain ⟨b, off, spot⟩ := a
    refine ⟨some ⟨b, off, spot⟩, cap, (List.range len).map f, by rw [el]; exact hcs, by rw [el]; omega, fun i hi => by rw [el] at hi; rw [eg i hi]; exact (hf i hi).1, b, off, fun hp => ?_, fun i hi => ?_⟩
    · rw [el] at hp
      obtain ⟨_, ad, c, _, q⟩ := hf 0 hp
      have hspot : spot = none := by simpa [Addr.add] using World.cell?_spot (q 0 (by omega))
      rw [hspot]
    · rw [el] at hi
      rw [eg i hi]
      have hspot : spot = none := by
        obtain ⟨_, ad, c, _, q⟩ := hf 0 (by omega)
        simpa [Addr.add] using World.cell?_spot (q 0 (by omega))
      subst hspot
      obtain ⟨_, ad, c, q0, q⟩ := hf i hi
      simp only [Go.WideShapes.add_plain] at q
      exact ⟨ad, c, q 0 (by omega), q 1 (by omega), q 2 (by omega), q 3 (by omega), q0⟩

/-- What the form's reading says of a book's sizes. -/
structure BkWf (B : Bk) : Prop where
  n0 : -9223372036854775808 ≤ B.n
  n1 : B.n ≤ 9223372036854775807
  o : B.orders.length ≤ maxLen
  x : ∀ i, i < B.orders.length → OrdWf (B.orders.getD i Ord.zero)
  l : B.locked.length ≤ maxLen
  c : B.occ.length ≤ maxLen

set_option maxRecDepth 100000 in
theorem open_book {r : Reach} {b0 : Nat} {v : Value} {d : DataW H} {p : List MemPlace} (hv : Value.okWide Tryd.prog w r b0 47 v) (h : DataW.Trod enc Tryd.prog w base spare held 47 v d p) : ∃ B, BookAt w v B ∧ BkWf B := by
  obtain ⟨v0, v1, v2, v3, y0, y1, y2, y3, n, rfl, _, _, h0, h1, h2, h3⟩ := open_agg4 Tryd.underlying47 (by kernel_rfl) cellsLBook hv h
  have g0 : DataW.trod enc Tryd.prog w base spare held n 3 [v0] = some y0 := h0
  have g1 : DataW.trod enc Tryd.prog w base spare held n 45 [v1] = some y1 := h1
  have g2 : DataW.trod enc Tryd.prog w base spare held n 27 [v2] = some y2 := h2
  have g3 : DataW.trod enc Tryd.prog w base spare held n 27 [v3] = some y3 := h3
  obtain ⟨k, e0, _, hw⟩ := DataW.trod_int Tryd.underlying3 g0
  obtain ⟨ao, co, xs, e1, u1, u2, u3⟩ := open_orders g1
  obtain ⟨al, cl, ls, e2, u4, u5⟩ := open_bools g2
  obtain ⟨ac, cc, os, e3, u6, u7⟩ := open_bools g3
  simp at e0
  have hb := bounds_i64 hw
  exact ⟨⟨k, xs, ls, os⟩, ⟨ao, co, al, cl, ac, cc, by rw [e0, e1, e2, e3], u3, u5, u7⟩, ⟨hb.1, hb.2, u1, u2, u4, u6⟩⟩
end

end Go.Proofs.YtbgmgfnhmlpehaaDoor
