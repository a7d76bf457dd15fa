/-
 The contracts of spec.Open, impl.Open. Mine, by template (wip/gen.py).
-/
import Derived.Test.YtdlaekjofgbjcaaGreatDoorEvZ
import Derived.Test.YtdlaekjofgbjcaaGreatDoorBaseZ
namespace Go.Proofs.YtdlaekjofgbjcaaGreatDoor
open Go.RowKit
def openTo (X : Nat → Ord) : Nat → List Int
 | 0 => []
 | k + 1 => openTo X k ++ (if (X k).state = 2 ∨ (X k).state = 3 then [(k : Int)] else [])
def OpenIs (B : Bk) (l : List Int) : Prop := (¬ Right B ∧ l = []) ∨ (Right B ∧ l = openTo (bX B) B.orders.length)
theorem OpenIs.det {B : Bk} {l m : List Int} (h : OpenIs B l) (k : OpenIs B m) : l = m := by
 rcases h with ⟨h1, h2⟩ | ⟨h1, h2⟩ <;> rcases k with ⟨k1, k2⟩ | ⟨k1, k2⟩
 · rw [h2, k2]
 · exact absurd k1 h1
 · exact absurd h1 k1
 · rw [h2, k2]
def OwnL (w : World) (lo : Nat) (v : Value) (l : List Int) (g : Nat) : Prop := ∃ ad cap, v = .slice ad l.length cap ∧ (0 < l.length → ad = some ⟨g, 0, none⟩ ∧ lo ≤ g ∧ Pre w g 3 l.length (iV l))
theorem OwnL.below {w w' : World} {lo : Nat} {v : Value} {l : List Int} {g : Nat} (h : OwnL w lo v l g) (hb : Below w.heap.size w w') : OwnL w' lo v l g := by
 obtain ⟨ad, cap, h1, h2⟩ := h; exact ⟨ad, cap, h1, fun hp => ⟨(h2 hp).1, (h2 hp).2.1, (h2 hp).2.2.of_block (hb.block _ (h2 hp).2.2.lt)⟩⟩
theorem ownL_of {w : World} {lo : Nat} {v : Value} {l : List Int} (h : w.ownsRow lo 3 1 v l.length (l.map (Value.int .i64))) : ∃ g, OwnL w lo v l g := by
 obtain ⟨_, h2⟩ := h; rcases h2 with ⟨rfl, h0⟩ | ⟨g, cap, cur, rfl, h1, h3, h4, _, h5, h6⟩
 ·
  have : l = [] := List.length_eq_zero_iff.1 h0; subst this; exact ⟨0, none, 0, rfl, fun h => absurd h (by simp)⟩
 ·
  refine ⟨g, some ⟨g, 0, none⟩, cap, rfl, fun _ => ⟨rfl, h1, cur, h3, by omega, fun i hi => ?_⟩⟩; have e : (cur.toList.take (l.length * 1))[i]? = (l.map (Value.int .i64))[i]? := by rw [h6]
  rw [List.getElem?_take, if_pos (by omega)] at e; rw [← Array.getElem?_toList, e]; simp [iV, hi]
end Go.Proofs.YtdlaekjofgbjcaaGreatDoor
