import Derived.Test.YtdlaekjofgbjcaaGreatDoorBaseZ
import Derived.Lib.SmallJoins
import Derived.Deep.Slices
import Derived.OpenShut
import Derived.Test.YtdlaekjofgbjcaaGreatDoorCurZ
import Derived.Test.YtdlaekjofgbjcaaGreatDoorIDoZ
import Derived.Test.YtdlaekjofgbjcaaGreatDoorRows
import Derived.LaidLaws
import Derived.Lib.LaidTab
import Derived.Lib.ItoaNum
import Derived.Stop.LaidErr
import Derived.OpenVars
/-
 A book among the arguments, opened. Mine, by template (wip/gen.py).
-/
namespace Go.Proofs.YtdlaekjofgbjcaaGreatDoor
open Go.RowKit Go.Deep Go.Joins
theorem plain_addr {w : World} {a : Addr} {n : Nat} {V : Nat → Value} (h : ∀ i, i < n → w.cell? (a.add i) = some (V i)) : ∃ b o, (0 < n → some a = some ⟨b, o, none⟩) ∧ ∀ i, i < n → w.cell? ⟨b, o + i, none⟩ = some (V i) := by
 obtain ⟨b, off, spot⟩ := a
 by_cases hp : 0 < n
 ·
  have hspot : spot = none := by simpa [Addr.add] using World.cell?_spot (h 0 hp)
  subst hspot; exact ⟨b, off, fun _ => rfl, fun j hj => by rw [← Go.WideShapes.add_plain]; exact h j hj⟩
 · exact ⟨b, off, fun h0 => absurd h0 hp, fun j hj => absurd (Nat.lt_of_le_of_lt (Nat.zero_le _) hj) hp⟩
section
variable {H : Type} {enc : TypeId × Value → H} {w : World} {base : Nat} {spare : Nat → Bool} {held : Bool} {fuel : Nat}
end
end Go.Proofs.YtdlaekjofgbjcaaGreatDoor
/-
 Bytes among the arguments, opened. Mine, by template (wip/gen.py).
-/
namespace Go.Proofs.YtdlaekjofgbjcaaGreatDoor
open Go.RowKit Go.Deep Go.Joins Go.ChangeShapes Go.WideShapes Go.ChangeAt
theorem cellsU8 : Tryz.prog.cellsOf 5 = 1 := by kernel_rfl
theorem u8_of {z : Int} (h : (Lit.int .u8 z).wf = true) : ∃ b : UInt8, z = ((b.toNat : Nat) : Int) := by
 have h2 : 0 ≤ z ∧ z < 256 := by
  simp [Lit.wf, IntKind.min, IntKind.max, IntKind.signed, IntKind.bits] at h; omega
 refine ⟨UInt8.ofNat z.toNat, ?_⟩; rw [UInt8.toNat_ofNat']; omega
section
variable {H : Type} {enc : TypeId × Value → H} {w : World} {base : Nat} {spare : Nat → Bool} {held : Bool}
theorem open_bytes {a0 : Option Addr} {l k : Nat} {d : DataW H} {p : List MemPlace} (h : DataW.Trod enc Tryz.prog w base spare held 22 (.slice a0 l k) d p) :
  ∃ V, BytesAt w a0 l V := by
 obtain ⟨fuel, hf⟩ := h; rcases open_slice1 Tryz.underlying22 cellsU8 hf with ⟨h0, _⟩ | ⟨a, len, cap, m, n, V, D, Pl, hcs, _, hl, hm, hmm, _, hx⟩
 ·
  simp [Value.cells] at h0; obtain ⟨rfl, rfl, rfl⟩ := h0; exact ⟨fun _ => 0, 0, 0, fun h => absurd h (by simp), fun i hi => absurd hi (by simp)⟩
 ·
  simp [Value.cells] at hcs; obtain ⟨rfl, rfl, rfl⟩ := hcs
  have hlm : l ≤ m := by rw [hmm]; split <;> omega
  obtain ⟨f, hf⟩ := choose_lt (α := UInt8) (n := l) (p := fun i b => w.cell? (a.add i) = some (.int .u8 ((b.toNat : Nat) : Int))) (fun i hi => by
   obtain ⟨h1, h2⟩ := hx i (by omega); obtain ⟨z, e, _, hw⟩ := DataW.trod_int Tryz.underlying5 h2; simp at e; obtain ⟨b, rfl⟩ := u8_of hw
   exact ⟨b, by rw [h1, e]⟩)
  obtain ⟨b, o, q1, q2⟩ := plain_addr hf; exact ⟨f, b, o, q1, q2⟩
end
end Go.Proofs.YtdlaekjofgbjcaaGreatDoor
/-
 The cell 'laid' of Do and Run: the program's eight errors, and the table of powers. Mine, by template (wip/gen.py; written by wip/plaid.py).
-/
namespace Go.Proofs.YtdlaekjofgbjcaaGreatDoor
open Go.RowKit Go.ChangeShapes Go.WideShapes
theorem gTab : Tryz.prog.globalNamed "internal/strconv.uint64pow10" = some 10 := by kernel_rfl
theorem gTabType : (Tryz.prog.globals[10]?).map (·.type) = some 186 := by kernel_rfl
theorem cellsT : Tryz.prog.cellsOf 186 = 20 := by kernel_rfl
theorem cellsErr : Tryz.prog.cellsOf 52 = 1 := by kernel_rfl
theorem datumTab : (Rows.laid_internal_strconv_uint64pow10 : DataW Unit) = Lib.tabData .u64 Lib.pow10Tab := by kernel_rfl
theorem errStar : "*" ++ "errors.errorString" = "*errors.errorString" := by decide
theorem errCells : Tryz.prog.cellsOf 210 = 1 := by kernel_rfl
theorem strCells : Tryz.prog.cellsOf 9 = 1 := by kernel_rfl
theorem errRow (u : TypeId) (h : Tryz.prog.typeName? 3 u = some "*errors.errorString") : u = 208 :=
 typeName_ptr_named (nm := "errors.errorString") (by rw [errStar]; kernel_rfl) (by kernel_rfl) (by decide) u (by rw [errStar]; exact h)
set_option maxRecDepth 100000 in
theorem laid_err {n : String} {text : List UInt8} {r : List (String × DataW Unit)} {W : World} {g : Nat} (h : laidMet Tryz.prog ((n, .iface "*errors.errorString" (.ptr (.agg [.lit (.string text)]))) :: r) W)
  (hg : Tryz.prog.globalNamed n = some g) (ht : (Tryz.prog.globals[g]?).map (·.type) = some 62) :
  ∃ a : Addr, W.cell? ⟨g, 0, none⟩ = some (.iface 208 (.pointer (some a))) ∧ (∃ s : ByteArray, W.cell? a = some (.string s) ∧ s.data.toList = text) ∧ ∃ c t, W.heap[a.block]? = some (.cells c t (0, 0)) := by
 obtain ⟨ps, ⟨g0, t0, cs0, f0, p0, q0, hg0, ht0, hv0, hd0, _, e0⟩, _, hrows⟩ := h; obtain rfl := Option.some.inj (hg.symm.trans hg0); obtain rfl := Option.some.inj (ht.symm.trans ht0); subst e0; obtain ⟨l0⟩ := cs0
 have ok0 : ∀ u v, l0 = [.iface u v] → Value.okWide Tryz.prog W .any 0 u v := fun u v e => by
  subst e; exact (hrows g 0 (by simp [MemPlace.row])).2 u v (by simpa using World.var?_cell hg0 hv0 0)
 obtain ⟨a0, s0, rfl, hc0, hs0, hz0, rfl⟩ := errorString_of_trod Tryz.underlying62 errRow Tryz.underlying208 Tryz.underlying210 rfl rfl Tryz.underlying9 errCells strCells hd0 ok0; exact ⟨a0, by simpa using World.var?_cell hg0 hv0 0, ⟨s0, hc0, hs0⟩, (hrows a0.block a0.off (by simp [MemPlace.row])).1⟩
def textOf : DataW Unit → List UInt8
 | .iface _ (.ptr (.agg [.lit (.string t)])) => t
 | _ => []
def errT : Nat → List UInt8
 | 0 => textOf Rows.laid_loop_example_handsignal_impl_errNoEvent
 | 1 => textOf Rows.laid_loop_example_handsignal_impl_errBookFull
 | 2 => textOf Rows.laid_loop_example_handsignal_impl_errState
 | 3 => textOf Rows.laid_loop_example_handsignal_impl_errTaken
 | 4 => textOf Rows.laid_loop_example_handsignal_impl_errNotHolder
 | 5 => textOf Rows.laid_loop_example_handsignal_impl_errLocked
 | 6 => textOf Rows.laid_loop_example_handsignal_impl_errMisheard
 | _ => textOf Rows.laid_loop_example_handsignal_impl_errSomebody
theorem errT_ne : ∀ i, i < 8 → ∀ j, j < 8 → i ≠ j → errT i ≠ errT j := by decide +kernel
theorem errN0 : Tryz.prog.globalNamed "loop.example/handsignal/impl.errNoEvent" = some 0 := by kernel_rfl
theorem errY0 : (Tryz.prog.globals[0]?).map (·.type) = some 62 := by kernel_rfl
theorem errN1 : Tryz.prog.globalNamed "loop.example/handsignal/impl.errBookFull" = some 2 := by kernel_rfl
theorem errY1 : (Tryz.prog.globals[2]?).map (·.type) = some 62 := by kernel_rfl
theorem errN2 : Tryz.prog.globalNamed "loop.example/handsignal/impl.errState" = some 3 := by kernel_rfl
theorem errY2 : (Tryz.prog.globals[3]?).map (·.type) = some 62 := by kernel_rfl
theorem errN3 : Tryz.prog.globalNamed "loop.example/handsignal/impl.errTaken" = some 4 := by kernel_rfl
theorem errY3 : (Tryz.prog.globals[4]?).map (·.type) = some 62 := by kernel_rfl
theorem errN4 : Tryz.prog.globalNamed "loop.example/handsignal/impl.errNotHolder" = some 5 := by kernel_rfl
theorem errY4 : (Tryz.prog.globals[5]?).map (·.type) = some 62 := by kernel_rfl
theorem errN5 : Tryz.prog.globalNamed "loop.example/handsignal/impl.errLocked" = some 6 := by kernel_rfl
theorem errY5 : (Tryz.prog.globals[6]?).map (·.type) = some 62 := by kernel_rfl
theorem errN6 : Tryz.prog.globalNamed "loop.example/handsignal/impl.errMisheard" = some 7 := by kernel_rfl
theorem errY6 : (Tryz.prog.globals[7]?).map (·.type) = some 62 := by kernel_rfl
theorem errN7 : Tryz.prog.globalNamed "loop.example/handsignal/impl.errSomebody" = some 8 := by kernel_rfl
theorem errY7 : (Tryz.prog.globals[8]?).map (·.type) = some 62 := by kernel_rfl
abbrev laidAll : List (String × DataW Unit) := Rows.fnTopRow.laid
theorem table_of {W : World} (h : laidMet Tryz.prog laidAll W) : Lib.TabIs Tryz.prog W "internal/strconv.uint64pow10" .u64 Lib.pow10Tab := by
 have h2 := laidMet.tail (laidMet.tail h); rw [datumTab] at h2; exact Lib.tabIs_of_head gTab gTabType Tryz.underlying186 Tryz.underlying52 cellsErr cellsT h2
def pick (a0 a1 a2 a3 a4 a5 a6 a7 : Addr) : Nat → Addr
 | 0 => a0
 | 1 => a1
 | 2 => a2
 | 3 => a3
 | 4 => a4
 | 5 => a5
 | 6 => a6
 | _ => a7
theorem errs_of {W : World} (h : laidMet Tryz.prog laidAll W) : ∃ A, Errs W A := by
 have h0 := laidMet.tail (laidMet.tail (laidMet.tail h)); obtain ⟨a0, v0, s0, b0⟩ := laid_err (text := errT 0) h0 errN0 errY0; have h1 := laidMet.tail h0; obtain ⟨a1, v1, s1, b1⟩ := laid_err (text := errT 1) h1 errN1 errY1; have h2 := laidMet.tail h1; obtain ⟨a2, v2, s2, b2⟩ := laid_err (text := errT 2) h2 errN2 errY2; have h3 := laidMet.tail h2; obtain ⟨a3, v3, s3, b3⟩ := laid_err (text := errT 3) h3 errN3 errY3; have h4 := laidMet.tail h3; obtain ⟨a4, v4, s4, b4⟩ := laid_err (text := errT 4) h4 errN4 errY4; have h5 := laidMet.tail h4; obtain ⟨a5, v5, s5, b5⟩ := laid_err (text := errT 5) h5 errN5 errY5; have h6 := laidMet.tail h5; obtain ⟨a6, v6, s6, b6⟩ := laid_err (text := errT 6) h6 errN6 errY6; have h7 := laidMet.tail h6; obtain ⟨a7, v7, s7, b7⟩ := laid_err (text := errT 7) h7 errN7 errY7
 have hs : ∀ k, k < 8 → ∃ s : ByteArray, W.cell? ((pick a0 a1 a2 a3 a4 a5 a6 a7) k) = some (.string s) ∧ s.data.toList = errT k := fun k hk => by
  match k, hk with
  | 0, _ => exact s0
  | 1, _ => exact s1
  | 2, _ => exact s2
  | 3, _ => exact s3
  | 4, _ => exact s4
  | 5, _ => exact s5
  | 6, _ => exact s6
  | 7, _ => exact s7
 refine ⟨(pick a0 a1 a2 a3 a4 a5 a6 a7), fun k hk => ?_, fun k hk => ?_, fun i j hi hj ne e => ?_⟩
 ·
  match k, hk with
  | 0, _ => exact v0
  | 1, _ => exact v1
  | 2, _ => exact v2
  | 3, _ => exact v3
  | 4, _ => exact v4
  | 5, _ => exact v5
  | 6, _ => exact v6
  | 7, _ => exact v7
 ·
  match k, hk with
  | 0, _ => exact b0
  | 1, _ => exact b1
  | 2, _ => exact b2
  | 3, _ => exact b3
  | 4, _ => exact b4
  | 5, _ => exact b5
  | 6, _ => exact b6
  | 7, _ => exact b7
 ·
  obtain ⟨s, hs1, hs2⟩ := hs i hi; obtain ⟨t, ht1, ht2⟩ := hs j hj; rw [e] at hs1
  obtain rfl : s = t := by
   have := Option.some.inj (hs1.symm.trans ht1); cases this; rfl
  exact errT_ne i hi j hj ne (hs2.symm.trans ht2)
/-! ### A world for the witness -/
def valsOf : DataW Unit → Array Value
 | .agg ds => (ds.map fun d => match d with | .lit (.int k z) => Value.int k z | _ => Value.bool false).toArray
 | _ => #[]
def putTab (d : DataW Unit) : Obj → Obj
 | .cells _ t frozen => .cells (valsOf d) t frozen
 | o => o
noncomputable def lowP : Nat := (World.holding Tryz.prog default ⟨#[], #[], []⟩).heap.size
noncomputable def putErr (k : Nat) : Obj → Obj
 | .cells _ t frozen => .cells #[.iface 208 (.pointer (some ⟨lowP + k, 0, none⟩))] t frozen
 | o => o
def errB (k : Nat) : Obj := .cells #[.string ⟨(errT k).toArray⟩] 210
noncomputable def w0 (os : Os) : World := World.holding Tryz.prog os ⟨#[errB 0, errB 1, errB 2, errB 3, errB 4, errB 5, errB 6, errB 7], #[], []⟩
noncomputable def laidWorld (os : Os) : World :=
 { w0 os with heap := ((((((((((((w0 os).heap).modify 0 (putErr 0)).modify 2 (putErr 1)).modify 3 (putErr 2)).modify 4 (putErr 3)).modify 5 (putErr 4)).modify 6 (putErr 5)).modify 7 (putErr 6)).modify 8 (putErr 7)).modify 10 (putTab Rows.laid_internal_strconv_uint64pow10)).modify 11 (putTab Rows.laid_math_bits_deBruijn32tab)).modify 12 (putTab Rows.laid_math_bits_deBruijn64tab) }
theorem trodVars_length {H : Type} {enc : TypeId × Value → H} {P : Program} {w : World} {sp : Nat → Bool} : ∀ {ns : List String} {gs : List (DataW H)} {ps : List MemPlace}, DataW.TrodVars enc P w sp ns gs ps → gs.length = ns.length
 | [], [], _, _ => rfl
 | [], _ :: _, _, h => h.elim
 | _ :: _, [], _, h => h.elim
 | _ :: _, _ :: _, _, ⟨_, _, _, _, _, _, _, _, _, _, hs, _⟩ => by simp [trodVars_length hs]
theorem list8 {α : Type} {l : List α} (h : l.length = 8) : ∃ a b c d e f g i, l = [a, b, c, d, e, f, g, i] := by
 match l, h with
 | [a, b, c, d, e, f, g, i], _ => exact ⟨a, b, c, d, e, f, g, i, rfl⟩
end Go.Proofs.YtdlaekjofgbjcaaGreatDoor
