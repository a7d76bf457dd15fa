/-
  The contracts of spec.l1text, spec.OrderText. Mine, by template (wip/gen.py).
-/
import Derived.Test.YtbcfmehcghkpiaaDoorText
import Derived.Deep.DeepCutAuto
namespace Go.Proofs.YtbcfmehcghkpiaaDoor
open Go.RowKit

/-- The word for the kind, as the table of words has it. -/
theorem kind_word (kd : Int) (h : kd = 1 ∨ kd = 2) : ∃ kt : ByteArray, (∀ W : World, (W.alloc (.cells #[.string ⟨#[]⟩, .string ⟨#[58, 32, 112, 97, 115, 115]⟩, .string ⟨#[58, 32, 119, 111, 114, 107, 32, 111, 110]⟩] 9)).cell? ⟨W.heap.size, kd.toNat, none⟩ = some (.string kt)) ∧ bl kt = (if kd = 1 then passT else workT) ∧ kt.size ≤ 9 := by
  rcases h with rfl | rfl
  · exact ⟨⟨#[58, 32, 112, 97, 115, 115]⟩, fun W => by simp [go_sem], rfl, by decide⟩
  · exact ⟨⟨#[58, 32, 119, 111, 114, 107, 32, 111, 110]⟩, fun W => by simp [go_sem], rfl, by decide⟩

theorem text_base {i : Nat} {x : Ord} {kt : ByteArray} (h : bl kt = (if x.kind = 1 then passT else workT)) : bl ⟨#[111, 114, 100, 101, 114, 32]⟩ ++ Lib.decDigits i ++ bl ⟨#[32, 116, 111, 32]⟩ ++ bl x.holder ++ bl kt = baseT i x := by
  unfold baseT headT
  rw [h]
  rfl

/-- Whether somebody is in one of the first k sections. -/
def SightIs (v : Value) (B : Bk) (x : Ord) (k : Nat) : Prop := (v = .bool true ∧ SightTo B x k) ∨ (v = .bool false ∧ ¬ SightTo B x k)

theorem SightTo.step {B : Bk} {x : Ord} {k : Nat} (h : SightTo B x k) : SightTo B x (k + 1) := by
  obtain ⟨q, h1, h2⟩ := h
  exact ⟨q, by omega, h2⟩

theorem sight_step {B : Bk} {x : Ord} {k m : Nat} (h : ¬ SightTo B x k) (hm : sV x k = (m : Int)) : SightIs (bV B.occ m) B x (k + 1) := by
  by_cases e : B.occ.getD m false = true
  · exact Or.inl ⟨by rw [bV, e], k, by omega, by rw [hm]; exact e⟩
  · refine Or.inr ⟨by rw [bV]; simpa using e, fun ⟨q, h1, h2⟩ => ?_⟩
    by_cases c : q = k
    · subst c
      rw [hm] at h2
      exact e h2
    · exact h ⟨q, by omega, h2⟩

theorem sec_step {l : List UInt8} {s d : ByteArray} {x : Ord} {k m : Nat} (hs : bl s = l ++ secT x k) (hm : sV x k = (m : Int)) (hd : bl d = Lib.decDigits m) : bl (s ++ (⟨#[32]⟩ ++ d)) = l ++ secT x (k + 1) := by
  rw [bl_append, bl_append, hs, hd, secT, hm, List.append_assoc]
  rfl

end Go.Proofs.YtbcfmehcghkpiaaDoor
