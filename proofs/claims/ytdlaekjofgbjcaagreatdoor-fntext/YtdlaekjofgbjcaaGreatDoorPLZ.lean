import Derived.Test.YtdlaekjofgbjcaaGreatDoorBaseZ
import Derived.Lib.SmallJoins
import Derived.Deep.Slices
import Derived.OpenShut
import Derived.Test.YtdlaekjofgbjcaaGreatDoorCurZ
import Derived.Test.YtdlaekjofgbjcaaGreatDoorIDoZ
import Derived.Test.YtdlaekjofgbjcaaGreatDoorRows
import Derived.LaidLaws
import Derived.Lib.LaidTab
import Derived.Lib.ItoaNum
import Derived.Stop.LaidErr
import Derived.OpenVars
import Derived.Test.YtdlaekjofgbjcaaGreatDoorILine
import Derived.ChangeArms
/-
 A book among the arguments, opened. Mine, by template (wip/gen.py).
-/
namespace Go.Proofs.YtdlaekjofgbjcaaGreatDoor
open Go.RowKit Go.Deep Go.Joins
theorem plain_addr {w : World} {a : Addr} {n : Nat} {V : Nat → Value} (h : ∀ i, i < n → w.cell? (a.add i) = some (V i)) : ∃ b o, (0 < n → some a = some ⟨b, o, none⟩) ∧ ∀ i, i < n → w.cell? ⟨b, o + i, none⟩ = some (V i) := by
 obtain ⟨b, off, spot⟩ := a
 by_cases hp : 0 < n
 ·
  have hspot : spot = none := by simpa [Addr.add] using World.cell?_spot (h 0 hp)
  subst hspot; exact ⟨b, off, fun _ => rfl, fun j hj => by rw [← Go.WideShapes.add_plain]; exact h j hj⟩
 · exact ⟨b, off, fun h0 => absurd h0 hp, fun j hj => absurd (Nat.lt_of_le_of_lt (Nat.zero_le _) hj) hp⟩
section
variable {H : Type} {enc : TypeId × Value → H} {w : World} {base : Nat} {spare : Nat → Bool} {held : Bool} {fuel : Nat}
end
end Go.Proofs.YtdlaekjofgbjcaaGreatDoor
/-
 Bytes among the arguments, opened. Mine, by template (wip/gen.py).
-/
namespace Go.Proofs.YtdlaekjofgbjcaaGreatDoor
open Go.RowKit Go.Deep Go.Joins Go.ChangeShapes Go.WideShapes Go.ChangeAt
theorem cellsU8 : Tryz.prog.cellsOf 5 = 1 := by kernel_rfl
theorem u8_of {z : Int} (h : (Lit.int .u8 z).wf = true) : ∃ b : UInt8, z = ((b.toNat : Nat) : Int) := by
 have h2 : 0 ≤ z ∧ z < 256 := by
  simp [Lit.wf, IntKind.min, IntKind.max, IntKind.signed, IntKind.bits] at h; omega
 refine ⟨UInt8.ofNat z.toNat, ?_⟩; rw [UInt8.toNat_ofNat']; omega
section
variable {H : Type} {enc : TypeId × Value → H} {w : World} {base : Nat} {spare : Nat → Bool} {held : Bool}
theorem open_bytes {a0 : Option Addr} {l k : Nat} {d : DataW H} {p : List MemPlace} (h : DataW.Trod enc Tryz.prog w base spare held 22 (.slice a0 l k) d p) :
  ∃ V, BytesAt w a0 l V := by
 obtain ⟨fuel, hf⟩ := h; rcases open_slice1 Tryz.underlying22 cellsU8 hf with ⟨h0, _⟩ | ⟨a, len, cap, m, n, V, D, Pl, hcs, _, hl, hm, hmm, _, hx⟩
 ·
  simp [Value.cells] at h0; obtain ⟨rfl, rfl, rfl⟩ := h0; exact ⟨fun _ => 0, 0, 0, fun h => absurd h (by simp), fun i hi => absurd hi (by simp)⟩
 ·
  simp [Value.cells] at hcs; obtain ⟨rfl, rfl, rfl⟩ := hcs
  have hlm : l ≤ m := by rw [hmm]; split <;> omega
  obtain ⟨f, hf⟩ := choose_lt (α := UInt8) (n := l) (p := fun i b => w.cell? (a.add i) = some (.int .u8 ((b.toNat : Nat) : Int))) (fun i hi => by
   obtain ⟨h1, h2⟩ := hx i (by omega); obtain ⟨z, e, _, hw⟩ := DataW.trod_int Tryz.underlying5 h2; simp at e; obtain ⟨b, rfl⟩ := u8_of hw
   exact ⟨b, by rw [h1, e]⟩)
  obtain ⟨b, o, q1, q2⟩ := plain_addr hf; exact ⟨f, b, o, q1, q2⟩
end
end Go.Proofs.YtdlaekjofgbjcaaGreatDoor
/-
 The cell 'laid' of Do and Run: the program's eight errors, and the table of powers. Mine, by template (wip/gen.py; written by wip/plaid.py).
-/
namespace Go.Proofs.YtdlaekjofgbjcaaGreatDoor
open Go.RowKit Go.ChangeShapes Go.WideShapes
theorem gTab : Tryz.prog.globalNamed "internal/strconv.uint64pow10" = some 10 := by kernel_rfl
theorem gTabType : (Tryz.prog.globals[10]?).map (·.type) = some 186 := by kernel_rfl
theorem cellsT : Tryz.prog.cellsOf 186 = 20 := by kernel_rfl
theorem errStar : "*" ++ "errors.errorString" = "*errors.errorString" := by decide
theorem errCells : Tryz.prog.cellsOf 210 = 1 := by kernel_rfl
theorem strCells : Tryz.prog.cellsOf 9 = 1 := by kernel_rfl
theorem errRow (u : TypeId) (h : Tryz.prog.typeName? 3 u = some "*errors.errorString") : u = 208 :=
 typeName_ptr_named (nm := "errors.errorString") (by rw [errStar]; kernel_rfl) (by kernel_rfl) (by decide) u (by rw [errStar]; exact h)
set_option maxRecDepth 100000 in
theorem laid_err {n : String} {text : List UInt8} {r : List (String × DataW Unit)} {W : World} {g : Nat} (h : laidMet Tryz.prog ((n, .iface "*errors.errorString" (.ptr (.agg [.lit (.string text)]))) :: r) W)
  (hg : Tryz.prog.globalNamed n = some g) (ht : (Tryz.prog.globals[g]?).map (·.type) = some 62) :
  ∃ a : Addr, W.cell? ⟨g, 0, none⟩ = some (.iface 208 (.pointer (some a))) ∧ (∃ s : ByteArray, W.cell? a = some (.string s) ∧ s.data.toList = text) ∧ ∃ c t, W.heap[a.block]? = some (.cells c t (0, 0)) := by
 obtain ⟨ps, ⟨g0, t0, cs0, f0, p0, q0, hg0, ht0, hv0, hd0, _, e0⟩, _, hrows⟩ := h; obtain rfl := Option.some.inj (hg.symm.trans hg0); obtain rfl := Option.some.inj (ht.symm.trans ht0); subst e0; obtain ⟨l0⟩ := cs0
 have ok0 : ∀ u v, l0 = [.iface u v] → Value.okWide Tryz.prog W .any 0 u v := fun u v e => by
  subst e; exact (hrows g 0 (by simp [MemPlace.row])).2 u v (by simpa using World.var?_cell hg0 hv0 0)
 obtain ⟨a0, s0, rfl, hc0, hs0, hz0, rfl⟩ := errorString_of_trod Tryz.underlying62 errRow Tryz.underlying208 Tryz.underlying210 rfl rfl Tryz.underlying9 errCells strCells hd0 ok0; exact ⟨a0, by simpa using World.var?_cell hg0 hv0 0, ⟨s0, hc0, hs0⟩, (hrows a0.block a0.off (by simp [MemPlace.row])).1⟩
def textOf : DataW Unit → List UInt8
 | .iface _ (.ptr (.agg [.lit (.string t)])) => t
 | _ => []
def errT : Nat → List UInt8
 | 0 => textOf Rows.laid_loop_example_handsignal_impl_errNoEvent
 | 1 => textOf Rows.laid_loop_example_handsignal_impl_errBookFull
 | 2 => textOf Rows.laid_loop_example_handsignal_impl_errState
 | 3 => textOf Rows.laid_loop_example_handsignal_impl_errTaken
 | 4 => textOf Rows.laid_loop_example_handsignal_impl_errNotHolder
 | 5 => textOf Rows.laid_loop_example_handsignal_impl_errLocked
 | 6 => textOf Rows.laid_loop_example_handsignal_impl_errMisheard
 | _ => textOf Rows.laid_loop_example_handsignal_impl_errSomebody
theorem errT_ne : ∀ i, i < 8 → ∀ j, j < 8 → i ≠ j → errT i ≠ errT j := by decide +kernel
theorem errN0 : Tryz.prog.globalNamed "loop.example/handsignal/impl.errNoEvent" = some 0 := by kernel_rfl
theorem errY0 : (Tryz.prog.globals[0]?).map (·.type) = some 62 := by kernel_rfl
theorem errN1 : Tryz.prog.globalNamed "loop.example/handsignal/impl.errBookFull" = some 2 := by kernel_rfl
theorem errY1 : (Tryz.prog.globals[2]?).map (·.type) = some 62 := by kernel_rfl
theorem errN2 : Tryz.prog.globalNamed "loop.example/handsignal/impl.errState" = some 3 := by kernel_rfl
theorem errY2 : (Tryz.prog.globals[3]?).map (·.type) = some 62 := by kernel_rfl
theorem errN3 : Tryz.prog.globalNamed "loop.example/handsignal/impl.errTaken" = some 4 := by kernel_rfl
theorem errY3 : (Tryz.prog.globals[4]?).map (·.type) = some 62 := by kernel_rfl
theorem errN4 : Tryz.prog.globalNamed "loop.example/handsignal/impl.errNotHolder" = some 5 := by kernel_rfl
theorem errY4 : (Tryz.prog.globals[5]?).map (·.type) = some 62 := by kernel_rfl
theorem errN5 : Tryz.prog.globalNamed "loop.example/handsignal/impl.errLocked" = some 6 := by kernel_rfl
theorem errY5 : (Tryz.prog.globals[6]?).map (·.type) = some 62 := by kernel_rfl
theorem errN6 : Tryz.prog.globalNamed "loop.example/handsignal/impl.errMisheard" = some 7 := by kernel_rfl
theorem errY6 : (Tryz.prog.globals[7]?).map (·.type) = some 62 := by kernel_rfl
theorem errN7 : Tryz.prog.globalNamed "loop.example/handsignal/impl.errSomebody" = some 8 := by kernel_rfl
theorem errY7 : (Tryz.prog.globals[8]?).map (·.type) = some 62 := by kernel_rfl
def pick (a0 a1 a2 a3 a4 a5 a6 a7 : Addr) : Nat → Addr
 | 0 => a0
 | 1 => a1
 | 2 => a2
 | 3 => a3
 | 4 => a4
 | 5 => a5
 | 6 => a6
 | _ => a7
/-! ### A world for the witness -/
def valsOf : DataW Unit → Array Value
 | .agg ds => (ds.map fun d => match d with | .lit (.int k z) => Value.int k z | _ => Value.bool false).toArray
 | _ => #[]
def putTab (d : DataW Unit) : Obj → Obj
 | .cells _ t frozen => .cells (valsOf d) t frozen
 | o => o
noncomputable def lowP : Nat := (World.holding Tryz.prog default ⟨#[], #[], []⟩).heap.size
noncomputable def putErr (k : Nat) : Obj → Obj
 | .cells _ t frozen => .cells #[.iface 208 (.pointer (some ⟨lowP + k, 0, none⟩))] t frozen
 | o => o
def errB (k : Nat) : Obj := .cells #[.string ⟨(errT k).toArray⟩] 210
noncomputable def w0 (os : Os) : World := World.holding Tryz.prog os ⟨#[errB 0, errB 1, errB 2, errB 3, errB 4, errB 5, errB 6, errB 7], #[], []⟩
noncomputable def laidWorld (os : Os) : World :=
 { w0 os with heap := ((((((((((((w0 os).heap).modify 0 (putErr 0)).modify 2 (putErr 1)).modify 3 (putErr 2)).modify 4 (putErr 3)).modify 5 (putErr 4)).modify 6 (putErr 5)).modify 7 (putErr 6)).modify 8 (putErr 7)).modify 10 (putTab Rows.laid_internal_strconv_uint64pow10)).modify 11 (putTab Rows.laid_math_bits_deBruijn32tab)).modify 12 (putTab Rows.laid_math_bits_deBruijn64tab) }
theorem trodVars_length {H : Type} {enc : TypeId × Value → H} {P : Program} {w : World} {sp : Nat → Bool} : ∀ {ns : List String} {gs : List (DataW H)} {ps : List MemPlace}, DataW.TrodVars enc P w sp ns gs ps → gs.length = ns.length
 | [], [], _, _ => rfl
 | [], _ :: _, _, h => h.elim
 | _ :: _, [], _, h => h.elim
 | _ :: _, _ :: _, _, ⟨_, _, _, _, _, _, _, _, _, _, hs, _⟩ => by simp [trodVars_length hs]
end Go.Proofs.YtdlaekjofgbjcaaGreatDoor
/-
 A table of strings in the cell 'laid': the words of lines. Mine, by template (wip/gen.py).
-/
namespace Go.Proofs.YtdlaekjofgbjcaaGreatDoor
open Go.RowKit Go.ChangeShapes Go.WideShapes
theorem strTab {H : Type} {enc : TypeId × Value → H} {P : Program} {w : World} {base : Nat} {sp : Nat → Bool} {held : Bool} {fuel : Nat} {t e : TypeId} {n : Nat} {cs : List Value} {ls : List (List UInt8)} {p : List MemPlace}
  (ht : P.underlying t = some (.array n e)) (he : P.underlying e = some .string) (hce : P.cellsOf e = 1) (hct : P.cellsOf t = n)
  (h : DataW.trod enc P w base sp held fuel t cs = some (.agg (ls.map fun l => .lit (.string l)), p)) (i : Nat) (l : List UInt8) (hi : ls[i]? = some l) : ∃ s : ByteArray, cs[i]? = some (.string s) ∧ s.data.toList = l := by
 cases fuel with
 | zero => simp [DataW.trod] at h
 | succ fuel =>
  simp only [DataW.trod, ht, hce, hct, Nat.mul_one] at h; split at h
  ·
   obtain ⟨xs, hm, hx⟩ := Option.map_eq_some_iff.1 h
   have hxs : xs.map (·.1) = ls.map fun l => (DataW.lit (.string l) : DataW H) := by
    have := congrArg Prod.fst hx
    simpa using this
   have hxl : xs.length = n := by simpa using Lib.mapM_length hm
   have hl := congrArg List.length hxs; simp only [List.length_map] at hl; have hlt : i < n := by have := (List.getElem?_eq_some_iff.1 hi).1; omega
   obtain ⟨b, hb, hf⟩ := Lib.mapM_at hm i i (by simp [hlt]); obtain ⟨s, hc, rfl, _⟩ := DataW.trod_string he hf
   have h1 : cs[i]? = some (.string s) := by
    have := congrArg (·[0]?) hc
    simpa [List.getElem?_take, List.getElem?_drop] using this
   have h2 : (xs.map (·.1))[i]? = some (DataW.lit (.string s.data.toList) : DataW H) := by simp [hb]
   rw [hxs] at h2; simp only [List.getElem?_map, hi, Option.map_some, Option.some.injEq, DataW.lit.injEq, Lit.string.injEq] at h2; exact ⟨s, h1, h2.symm⟩
  · cases h
theorem gWords : Tryz.prog.globalNamed "loop.example/handsignal/impl.firstWords" = some 1 := by kernel_rfl
theorem gWordsType : (Tryz.prog.globals[1]?).map (·.type) = some 75 := by kernel_rfl
theorem cellsW : Tryz.prog.cellsOf 75 = 10 := by kernel_rfl
theorem cellsS : Tryz.prog.cellsOf 9 = 1 := by kernel_rfl
def wordsL : List (List UInt8) := [[], bl (wordB 1), bl (wordB 2), bl (wordB 3), bl (wordB 4), bl (wordB 5), bl (wordB 6), bl (wordB 7), bl (wordB 8), bl (wordB 9)]
theorem fwords_of {W : World} {rest : List (String × DataW Unit)} (h : laidMet Tryz.prog (("loop.example/handsignal/impl.firstWords", .agg (wordsL.map fun l => .lit (.string l))) :: rest) W) : FWords W := by
 obtain ⟨ps, ⟨g', t', cs, fuel, p, q, hg', ht', hvar, hd, _, _⟩, _⟩ := h; obtain rfl := Option.some.inj (gWords.symm.trans hg'); obtain rfl := Option.some.inj (gWordsType.symm.trans ht'); intro k hk; have hc := World.var?_cell hg' hvar k.toNat
 have key : ∀ (j : Nat) (x : ByteArray), wordsL[j]? = some (bl x) → W.cell? ⟨1, j, none⟩ = some (.string x) := fun j x hj => by
  obtain ⟨s, h1, h2⟩ := strTab Tryz.underlying75 Tryz.underlying9 cellsS cellsW hd j (bl x) hj; have e : s = x := bl_inj h2; subst e; have := World.var?_cell hg' hvar j; rw [this]
  simpa using h1
 clear hc; rcases one_to_nine hk with rfl | rfl | rfl | rfl | rfl | rfl | rfl | rfl | rfl
 · exact key 1 _ rfl
 · exact key 2 _ rfl
 · exact key 3 _ rfl
 · exact key 4 _ rfl
 · exact key 5 _ rfl
 · exact key 6 _ rfl
 · exact key 7 _ rfl
 · exact key 8 _ rfl
 · exact key 9 _ rfl
end Go.Proofs.YtdlaekjofgbjcaaGreatDoor
