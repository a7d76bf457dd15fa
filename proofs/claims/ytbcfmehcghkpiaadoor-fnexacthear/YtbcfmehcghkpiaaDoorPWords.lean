/-
  A table of strings in the cell 'laid': the words of lines. Mine, by template (wip/gen.py).
-/
import Derived.Test.YtbcfmehcghkpiaaDoorILine
import Derived.LaidLaws
import Derived.Lib.LaidTab
import Derived.ChangeArms
namespace Go.Proofs.YtbcfmehcghkpiaaDoor
open Go.RowKit Go.ChangeShapes Go.WideShapes

theorem strTab {H : Type} {enc : TypeId × Value → H} {P : Program} {w : World} {base : Nat} {sp : Nat → Bool} {held : Bool} {fuel : Nat} {t e : TypeId} {n : Nat} {cs : List Value} {ls : List (List UInt8)} {p : List MemPlace}
    (ht : P.underlying t = some (.array n e)) (he : P.underlying e = some .string) (hce : P.cellsOf e = 1) (hct : P.cellsOf t = n)
    (h : DataW.trod enc P w base sp held fuel t cs = some (.agg (ls.map fun l => .lit (.string l)), p)) (i : Nat) (l : List UInt8) (hi : ls[i]? = some l) : ∃ s : ByteArray, cs[i]? = some (.string s) ∧ s.data.toList = l := by
  cases fuel with
  | zero => simp [DataW.trod] at h
  | succ fuel =>
    simp only [DataW.trod, ht, hce, hct, Nat.mul_one] at h
    split at h
    · obtain ⟨xs, hm, hx⟩ := Option.map_eq_some_iff.1 h
      have hxs : xs.map (·.1) = ls.map fun l => (DataW.lit (.string l) : DataW H) := by
        have := congrArg Prod.fst hx
        simpa using this
      have hxl : xs.length = n := by simpa using Lib.mapM_length hm
      have hl := congrArg List.length hxs
      simp only [List.length_map] at hl
      have hlt : i < n := by have := (List.getElem?_eq_some_iff.1 hi).1; omega
      obtain ⟨b, hb, hf⟩ := Lib.mapM_at hm i i (by simp [hlt])
      obtain ⟨s, hc, rfl, _⟩ := DataW.trod_string he hf
      have h1 : cs[i]? = some (.string s) := by
        have := congrArg (·[0]?) hc
        simpa [List.getElem?_take, List.getElem?_drop] using this
      have h2 : (xs.map (·.1))[i]? = some (DataW.lit (.string s.data.toList) : DataW H) := by simp [hb]
      rw [hxs] at h2
      simp only [List.getElem?_map, hi, Option.map_some, Option.some.injEq, DataW.lit.injEq, Lit.string.injEq] at h2
      exact ⟨s, h1, h2.symm⟩
    · cases h

theorem gWords : Tryd.prog.globalNamed "loop.example/handsignal/impl.firstWords" = some 0 := by kernel_rfl
theorem gWordsType : (Tryd.prog.globals[0]?).map (·.type) = some 55 := by kernel_rfl
theorem cellsW : Tryd.prog.cellsOf 55 = 10 := by kernel_rfl
theorem cellsS : Tryd.prog.cellsOf 9 = 1 := by kernel_rfl

def wordsL : List (List UInt8) := [[], bl (wordB 1), bl (wordB 2), bl (wordB 3), bl (wordB 4), bl (wordB 5), bl (wordB 6), bl (wordB 7), bl (wordB 8), bl (wordB 9)]

theorem fwords_of {W : World} {rest : List (String × DataW Unit)} (h : laidMet Tryd.prog (("loop.example/handsignal/impl.firstWords", .agg (wordsL.map fun l => .lit (.string l))) :: rest) W) : FWords W := by
  obtain ⟨ps, ⟨g', t', cs, fuel, p, q, hg', ht', hvar, hd, _, _⟩, _⟩ := h
  obtain rfl := Option.some.inj (gWords.symm.trans hg')
  obtain rfl := Option.some.inj (gWordsType.symm.trans ht')
  intro k hk
  have hc := World.var?_cell hg' hvar k.toNat
  have key : ∀ (j : Nat) (x : ByteArray), wordsL[j]? = some (bl x) → W.cell? ⟨0, j, none⟩ = some (.string x) := fun j x hj => by
    obtain ⟨s, h1, h2⟩ := strTab Tryd.underlying55 Tryd.underlying9 cellsS cellsW hd j (bl x) hj
    have e : s = x := bl_inj h2
    subst e
    have := World.var?_cell hg' hvar j
    rw [this]
    simpa using h1
  clear hc
  rcases one_to_nine hk with rfl | rfl | rfl | rfl | rfl | rfl | rfl | rfl | rfl
  · exact key 1 _ rfl
  · exact key 2 _ rfl
  · exact key 3 _ rfl
  · exact key 4 _ rfl
  · exact key 5 _ rfl
  · exact key 6 _ rfl
  · exact key 7 _ rfl
  · exact key 8 _ rfl
  · exact key 9 _ rfl

end Go.Proofs.YtbcfmehcghkpiaaDoor
