/-
  An event among the arguments, opened. Mine, by template (wip/gen.py).
-/
import Derived.Test.YtbgmgfnhmlpehabGreatDoorOpen
import Derived.Test.YtbgmgfnhmlpehabGreatDoorEv
namespace Go.Proofs.YtbgmgfnhmlpehabGreatDoor
open Go.RowKit Go.Deep Go.Joins Go.ChangeShapes Go.WideShapes Go.ChangeAt

theorem cellsLEvent : Tryz.prog.cellsOf 28 = 6 := by kernel_rfl

section
variable {H : Type} {enc : TypeId × Value → H} {w : World} {base : Nat} {spare : Nat → Bool} {held : Bool}

theorem array6 {α : Type} {cs : Array α} (h : cs.size = 6) : ∃ c0 c1 c2 c3 c4 c5, cs = #[c0, c1, c2, c3, c4, c5] := by
  obtain ⟨l⟩ := cs
  match l, h with
  | [c0, c1, c2, c3, c4, c5], _ => exact ⟨c0, c1, c2, c3, c4, c5, rfl⟩

set_option maxRecDepth 100000 in
theorem event_cells {fuel : Nat} {cs : List Value} {y : DataW H × List MemPlace} (h : DataW.trod enc Tryz.prog w base spare held fuel 28 cs = some y) (hl : cs.length = 6) :
    ∃ E ad c, cs = [.int .i64 (Ev.op E), .int .i64 E.of_, .string E.holder, .int .i64 E.kind, .slice ad E.secs.length c, .string E.text] ∧ (E.holder.size ≤ maxLen ∧ E.text.size ≤ maxLen ∧ E.secs.length ≤ maxLen) ∧ Cells w ad E.secs.length (iV E.secs) := by
  obtain ⟨xs, n, _, rfl, _, hlen, hf⟩ := DataW.trod_struct Tryz.underlying28 h
  match cs, hl with
  | [a0, a1, a2, a3, a4, a5], _ =>
    match xs, hlen with
    | [y0, y1, y2, y3, y4, y5], _ =>
      have g0 : DataW.trod enc Tryz.prog w base spare held n 3 [a0] = some y0 := hf 0 _ rfl
      have g1 : DataW.trod enc Tryz.prog w base spare held n 3 [a1] = some y1 := hf 1 _ rfl
      have g2 : DataW.trod enc Tryz.prog w base spare held n 9 [a2] = some y2 := hf 2 _ rfl
      have g3 : DataW.trod enc Tryz.prog w base spare held n 3 [a3] = some y3 := hf 3 _ rfl
      have g4 : DataW.trod enc Tryz.prog w base spare held n 26 [a4] = some y4 := hf 4 _ rfl
      have g5 : DataW.trod enc Tryz.prog w base spare held n 9 [a5] = some y5 := hf 5 _ rfl
      obtain ⟨k0, e0, _, _⟩ := DataW.trod_int Tryz.underlying3 g0
      obtain ⟨k1, e1, _, _⟩ := DataW.trod_int Tryz.underlying3 g1
      obtain ⟨s2, e2, _, hs2⟩ := DataW.trod_string Tryz.underlying9 g2
      obtain ⟨k3, e3, _, _⟩ := DataW.trod_int Tryz.underlying3 g3
      obtain ⟨ad, cc, xs, e4, hx, hC⟩ := open_ints' g4
      obtain ⟨s5, e5, _, hs5⟩ := DataW.trod_string Tryz.underlying9 g5
      simp at e0 e1 e2 e3 e5
      exact ⟨⟨k0, k1, s2, k3, xs, s5⟩, ad, cc, by rw [e0, e1, e2, e3, e4, e5], ⟨hs2, hs5, hx⟩, hC⟩

set_option maxRecDepth 100000 in
theorem open_event {r : Reach} {b0 : Nat} {v : Value} {d : DataW H} {p : List MemPlace} (hv : Value.okWide Tryz.prog w r b0 28 v) (h : DataW.Trod enc Tryz.prog w base spare held 28 v d p) : ∃ E, EvAt w v E ∧ (E.holder.size ≤ maxLen ∧ E.text.size ≤ maxLen ∧ E.secs.length ≤ maxLen) := by
  obtain ⟨cs, rfl, hsz⟩ := okWide_struct Tryz.underlying28 hv
  obtain ⟨c0, c1, c2, c3, c4, c5, rfl⟩ := array6 (hsz.trans cellsLEvent)
  obtain ⟨fuel, hf⟩ := h
  obtain ⟨E, ad, c, e, hw, hC⟩ := event_cells hf rfl
  simp only [Value.cells, List.cons.injEq, and_true] at e
  obtain ⟨rfl, rfl, rfl, rfl, rfl, rfl⟩ := e
  exact ⟨E, ⟨ad, c, rfl, hC⟩, hw⟩
end

end Go.Proofs.YtbgmgfnhmlpehabGreatDoor
