/-
 The contracts of impl.anyMarked, impl.OrderText. Mine, by template (wip/gen.py).
-/
import Derived.Test.YtdlaekjofgbjcaaGreatDoorText2
import Derived.Test.YtdlaekjofgbjcaaGreatDoorMapZ
import Derived.Test.YtdlaekjofgbjcaaGreatDoorMarks
import Derived.Test.YtdlaekjofgbjcaaGreatDoorShelf
import Derived.Lib.AppendIntMem
import Derived.Lib.LaidTab
namespace Go.Proofs.YtdlaekjofgbjcaaGreatDoor
open Go.RowKit
theorem tab_below {P : Program} {w w' : World} {n : String} {k : IntKind} {zs : List Int} (h : Lib.TabIs P w n k zs) (hb : Below w.heap.size w w') : Lib.TabIs P w' n k zs := by
 unfold Lib.TabIs World.var? at h ⊢; obtain ⟨g, hg, h⟩ := Option.bind_eq_some_iff.1 h; refine Option.bind_eq_some_iff.2 ⟨g, hg, ?_⟩
 have hlt : g < w.heap.size := by
  rcases Nat.lt_or_ge g w.heap.size with h1 | h1
  · exact h1
  ·
   rw [Array.getElem?_eq_none h1] at h; cases h
 rw [hb.block g hlt]; exact h
theorem builder_below {T e : TypeId} {B b : Nat} {p : Value} {bs : List Value} {w w' : World} (h : Lib.BuilderAt T e B b p bs w) (hb : Below w.heap.size w w') : Lib.BuilderAt T e B b p bs w' := by
 have hlt := h.lt; obtain ⟨h1, v, h2, h3, h4⟩ := h; exact ⟨h1, v, (hb.block b hlt).trans h2, h3.kept (row := none) ⟨hb.os, hb.tape, hb.output, hb.size, fun k hk _ => hb.block k hk⟩ (by cases hv : v.ownBlock <;> simp), h4⟩
def Bld (b : Nat) (l : List UInt8) (w : World) : Prop := Lib.IsBuilder 94 5 b b (Lib.byteCells l) w
theorem Bld.fresh (w : World) : Bld w.heap.size [] (w.alloc (.cells #[.pointer none, .slice none 0 0] 94)) := Lib.fresh_isBuilder _ _ w
theorem Bld.below {b : Nat} {l : List UInt8} {w w' : World} (h : Bld b l w) (hb : Below w.heap.size w w') : Bld b l w' := by
 rcases h with h | h
 · exact Or.inl (builder_below h hb)
 · exact Or.inr (builder_below h hb)
theorem Bld.lt {b : Nat} {l : List UInt8} {w : World} (h : Bld b l w) : b < w.heap.size := by
 rcases h with h | h <;> exact h.lt
theorem write_any (b : Nat) (l : List UInt8) (s : ByteArray) (w : World) (h : Bld b l w) (hlen : l.length + s.size ≤ 4294967296) :
  Calls Tryz.prog 50 #[.pointer (some ⟨b, 0, none⟩), .string s] w fun e w' => e = .returned (.tuple #[.int .i64 s.size, .nilIface]) ∧ Bld b (l ++ bl s) w' ∧ Below b w w' := by
 refine (Tryz.Builder_WriteString b b _ s w h (by rw [Lib.byteCells_length]; omega) (Nat.le_of_lt h.lt)).mono ?_; rintro e w' ⟨rfl, h1, h2⟩; refine ⟨rfl, Or.inr ?_, h2⟩; rw [Lib.byteCells_append]; exact h1
theorem string_any (b : Nat) (l : List UInt8) (w : World) (h : Bld b l w) :
  Calls Tryz.prog 51 #[.pointer (some ⟨b, 0, none⟩)] w fun e w' => e = .returned (.string ⟨l.toArray⟩) ∧ Below b w w' :=
 Tryz.Builder_String_any b b l w h (Nat.le_of_lt h.lt)
theorem itoa_any (n : Nat) (w : World) (h : n ≤ 9223372036854775807) (ht : Lib.TabIs Tryz.prog w "internal/strconv.uint64pow10" .u64 Lib.pow10Tab) :
  Calls Tryz.prog 36 #[.int .i64 n] w fun e w' => RetD e n ∧ Below w.heap.size w w' := by
 refine (Tryz.strconv_Itoa n (by omega) (by omega) w ht).mono ?_; rintro e w' ⟨rfl, k, os, rfl⟩; refine ⟨⟨_, rfl, ?_⟩, Lib.below_grow _ w (Nat.le_refl _) k os⟩; rw [bl_mk]; unfold Lib.itoa; rw [if_neg (by omega)]; simp
end Go.Proofs.YtdlaekjofgbjcaaGreatDoor
