/-
  A map of the readings, filled in whatever order. Mine, by template (wip/gen.py).
-/
import Derived.Test.YtdlaekjofgbjcaaGreatDoorHearK
import Derived.ChangeMaps4
import Derived.MapKept
import Derived.OrdersHeld
namespace Go.Proofs.YtdlaekjofgbjcaaGreatDoor
open Go.RowKit
def rdF (j : Nat) : Nat := if j = 1 then 107 else if j = 3 then 109 else if j = 4 then 110 else 108
def rdV (q j : Nat) : Value := .agg #[.int .i64 (j : Int), .func (.func (rdF j)) #[.pointer (some ⟨q, 0, none⟩)] #[]]
def MI (w : World) (q b : Nat) (d : Nat → Bool) : Prop :=
  ∃ (es : Array MapEntry) (clock : Nat), w.heap[b]? = some (.map es clock) ∧ (∀ e ∈ es.toList, ∃ j, 1 ≤ j ∧ j ≤ 9 ∧ d j = true ∧ e.key = .string (wordB j) ∧ e.val = rdV q j) ∧ ∀ j, 1 ≤ j → j ≤ 9 → d j = true → ∃ e ∈ es.toList, e.key = .string (wordB j)
theorem wordB_inj {i j : Nat} (hi : 1 ≤ i ∧ i ≤ 9) (hj : 1 ≤ j ∧ j ≤ 9) (h : wordB i = wordB j) : i = j := by
  have a := opOf_word (k := (i : Int)) ⟨by omega, by omega⟩
  have b := opOf_word (k := (j : Int)) ⟨by omega, by omega⟩
  rw [h, b] at a
  omega
theorem MI.insert {w : World} {q b j : Nat} {d : Nat → Bool} (h : MI w q b d) (h1 : 1 ≤ j) (h9 : j ≤ 9) (hd : d j = false) :
    ∃ w', (Instr.mapUpdate 173 (.map (some b)) (.string (wordB j)) (rdV q j)).run Tryz.prog w = .ok () w' ∧ MI w' q b (fun i => d i || decide (i = j)) ∧ Fr (fun x => x = b) w w' := by
  obtain ⟨es, clock, hb, he, hk⟩ := h
  have hkey : MapKept.IsKey .string (.string (wordB j)) := trivial
  have hks : ∀ x ∈ es.toList, MapKept.IsKey .string x.key := fun x hx => by
    obtain ⟨i, -, -, -, e, -⟩ := he x hx
    rw [e]
    trivial
  have hu : Tryz.prog.underlying 9 = some .string := Tryz.underlying9
  rcases MapKept.findNow_spec hkey es.toList 0 hks with ⟨f1, f2⟩ | ⟨i, e0, f1, f2, f3⟩
  · refine ⟨{ w with heap := w.heap.setIfInBounds b (.map (es.push ⟨.string (wordB j), rdV q j, clock⟩) (clock + 1)) }, ?_, ⟨es.push ⟨.string (wordB j), rdV q j, clock⟩, clock + 1, (MapKept.heap_set hb).1, ?_, ?_⟩, ?_⟩
    · simp [Instr.mapUpdate, run_underlying Tryz.underlying173, MapKept.run_getObj_map hb, MapKept.run_checkKey hu hkey, MapKept.run_findKey hu f1, MapKept.run_setObj_map _ hb, Result.andThen]
    · intro e hx
      simp only [Array.toList_push, List.mem_append, List.mem_singleton] at hx
      rcases hx with hx | rfl
      · obtain ⟨i, a1, a2, a3, a4, a5⟩ := he e hx
        exact ⟨i, a1, a2, by show (d i || _) = true; rw [a3]; rfl, a4, a5⟩
      · exact ⟨j, h1, h9, by simp, rfl, rfl⟩
    · intro i i1 i9 hi
      simp only [Array.toList_push, List.mem_append, List.mem_singleton]
      by_cases e : i = j
      · subst e
        exact ⟨_, Or.inr rfl, rfl⟩
      · have : d i = true := by simpa [e] using hi
        obtain ⟨x, x1, x2⟩ := hk i i1 i9 this
        exact ⟨x, Or.inl x1, x2⟩
    · exact ⟨rfl, rfl, rfl, by simp, fun i _ hn => (MapKept.heap_set hb).2 i hn⟩
  · obtain ⟨i', i1, i9, hd', hk', -⟩ := he e0 (List.mem_of_getElem? f2)
    rw [f3] at hk'
    have : wordB j = wordB i' := by injection hk'
    have := wordB_inj ⟨h1, h9⟩ ⟨i1, i9⟩ this
    subst this
    rw [hd] at hd'
    cases hd'
theorem opOf_cases (l : List UInt8) : opOf l = 0 ∨ ∃ j : Nat, 1 ≤ j ∧ j ≤ 9 ∧ l = bl (wordB j) := by
  unfold opOf
  repeat (split; · next h => first | exact Or.inr ⟨1, by omega, by omega, h⟩ | exact Or.inr ⟨2, by omega, by omega, h⟩ | exact Or.inr ⟨3, by omega, by omega, h⟩ | exact Or.inr ⟨4, by omega, by omega, h⟩ | exact Or.inr ⟨5, by omega, by omega, h⟩ | exact Or.inr ⟨6, by omega, by omega, h⟩ | exact Or.inr ⟨7, by omega, by omega, h⟩ | exact Or.inr ⟨8, by omega, by omega, h⟩ | exact Or.inr ⟨9, by omega, by omega, h⟩)
  exact Or.inl rfl
theorem MI.look {w : World} {q b : Nat} (h : MI w q b (fun _ => true)) (s : ByteArray) :
    (Instr.lookup 173 (.map (some b)) (.string s) true).run Tryz.prog w = .ok (.tuple (if opOf (bl s) = 0 then #[.agg #[.int .i64 0, .nilFunc], .bool false] else #[rdV q (opOf (bl s)).toNat, .bool true])) w := by
  obtain ⟨es, clock, hb, he, hk⟩ := h
  have hkey : MapKept.IsKey .string (.string s) := trivial
  have hks : ∀ x ∈ es.toList, MapKept.IsKey .string x.key := fun x hx => by
    obtain ⟨i, -, -, -, e, -⟩ := he x hx
    rw [e]
    trivial
  have hu : Tryz.prog.underlying 9 = some .string := Tryz.underlying9
  have hz : (zeroValue 171).run Tryz.prog w = .ok (.agg #[.int .i64 0, .nilFunc]) w := by kernel_rfl
  rcases MapKept.findNow_spec hkey es.toList 0 hks with ⟨f1, f2⟩ | ⟨i, e0, f1, f2, f3⟩
  · have e0 : opOf (bl s) = 0 := by
      rcases (show opOf (bl s) = 0 ∨ ∃ j : Nat, 1 ≤ j ∧ j ≤ 9 ∧ bl s = bl (wordB j) from opOf_cases _) with h | ⟨j, j1, j9, hj⟩
      · exact h
      · obtain ⟨x, x1, x2⟩ := hk j j1 j9 rfl
        exact absurd (x2.trans (congrArg Value.string (bl_inj hj).symm)) (f2 x x1)
    rw [if_pos e0]
    simp [Instr.lookup, run_underlying Tryz.underlying173, MapKept.run_getObj_map hb, MapKept.run_checkKey hu hkey, MapKept.run_findKey hu f1, hz, Result.andThen]
  · obtain ⟨j, j1, j9, -, hk', hv⟩ := he e0 (List.mem_of_getElem? f2)
    rw [f3] at hk'
    have hsj : s = wordB j := by injection hk'
    have e1 : opOf (bl s) = (j : Int) := by rw [hsj]; exact opOf_word ⟨by omega, by omega⟩
    rw [e1, if_neg (by omega)]
    simp [Instr.lookup, run_underlying Tryz.underlying173, MapKept.run_getObj_map hb, MapKept.run_checkKey hu hkey, MapKept.run_findKey hu f1, hv, Result.andThen]
end Go.Proofs.YtdlaekjofgbjcaaGreatDoor