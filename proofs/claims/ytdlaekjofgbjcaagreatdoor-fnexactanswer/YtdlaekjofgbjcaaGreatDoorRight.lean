/-
  A book that is right. Mine, by template (wip/gen.py).
-/
import Derived.Test.YtdlaekjofgbjcaaGreatDoorSBook
namespace Go.Proofs.YtdlaekjofgbjcaaGreatDoor
open Go.RowKit
def Right (B : Bk) : Prop := SizesOk B ∧ AllOrd B ∧ NoClash B ∧ NoLock B
theorem BCode.right {B : Bk} {c : Int} (h : BCode B c) : (c = 0 ↔ Right B) := by
  unfold BCode at h
  unfold Right
  rcases h with h | h | h | h | h
  · exact ⟨fun e => by omega, fun r => absurd r.1 h.1⟩
  · exact ⟨fun e => by omega, fun r => absurd r.2.1 h.2.1⟩
  · exact ⟨fun e => by omega, fun r => absurd r.2.2.1 h.2.2.1⟩
  · exact ⟨fun e => by omega, fun r => absurd r.2.2.2 h.2.2.2.1⟩
  · exact ⟨fun _ => ⟨h.1, h.2.1, h.2.2.1, h.2.2.2.1⟩, fun _ => h.2.2.2.2⟩
end Go.Proofs.YtdlaekjofgbjcaaGreatDoor