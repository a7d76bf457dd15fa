import Derived.Test.YtbgmgfnhmlpehabGreatDoorSDo2
import Derived.Test.YtbgmgfnhmlpehabGreatDoorDoEq
import Derived.Test.YtbgmgfnhmlpehabGreatDoorSmall
import Derived.Test.YtbgmgfnhmlpehabGreatDoorOpenE
import Derived.Deep.DeepCutAuto
import Derived.Deep.RegionHeld3
import Derived.Test.YtbgmgfnhmlpehabGreatDoorErr
import Derived.Test.YtbgmgfnhmlpehabGreatDoorRows
import Derived.LaidLaws
import Derived.Lib.LaidTab
import Derived.Lib.ItoaNum
import Derived.Stop.LaidErr
import Derived.OpenVars
import Derived.Test.YtbgmgfnhmlpehabGreatDoorCards
import Derived.Test.YtbgmgfnhmlpehabGreatDoorTie
import Derived.ProofKit
import Derived.OpenShut
import Derived.ChangeOld
import Derived.Below
import Derived.Deep.DeepHandedRow
/-
  laws.FnExactDo: what is kept along its walk. Mine, by template (wip/gen.py).
-/
namespace Go.Proofs.YtbgmgfnhmlpehabGreatDoor
open Go.RowKit

structure EvWf (E : Ev) : Prop where
  h : E.holder.size ≤ maxLen
  t : E.text.size ≤ maxLen
  s : E.secs.length ≤ maxLen

theorem kAt_bulk' (xs : List Ord) (k n : Nat) (h : n ≤ xs.length) : kAt (fun i => xs.getD i Ord.zero) k n ≤ k + 3 * n + wOrds (xs.take n) := by
  induction n with
  | zero => simp [kAt]
  | succ n ih =>
    have h1 := ih (by omega)
    have h2 := wOrds_take xs n (by omega)
    simp only [kAt]
    unfold wOrd at h2
    omega

theorem bEnd_small' {B : Bk} (h : wBk B ≤ 1048576) : bEnd B 1 ≤ 2305843009213693952 := by
  have h1 := kAt_bulk' B.orders 1 B.orders.length (Nat.le_refl _)
  rw [List.take_length] at h1
  have h2 : bK B 1 = kAt (fun i => B.orders.getD i Ord.zero) 1 B.orders.length := rfl
  unfold wBk at h
  unfold bEnd
  omega

/-- A variable that holds what Do has answered, its book its own. -/
def DoneBox (w : World) (lo P : Nat) (c : Int) (R : Bk) (K : Blk) : Prop :=
  ∃ a b c' d, w.heap[P]? = some (.cells #[.int .i64 c, a, b, c', d] 35 (0, 0)) ∧ OwnBook w lo (.agg #[a, b, c', d]) R K ∧ lo ≤ P ∧ ∀ x, bookBlocks R K x → x ≠ P

theorem heap_lt {w : World} {P : Nat} {o : Obj} (h : w.heap[P]? = some o) : P < w.heap.size := by
  rcases Nat.lt_or_ge P w.heap.size with h1 | h1
  · exact h1
  · rw [Array.getElem?_eq_none h1] at h; cases h

theorem doneBox_new {W wD : World} {n lo : Nat} {c : Int} {R : Bk} {K : Blk} {a b c' d : Value} (h : OwnBook wD lo (.agg #[a, b, c', d]) R K) (hl : n ≤ lo) (hb : Below n W wD) (hn : n ≤ wD.heap.size) : DoneBox (wD.alloc (.cells #[.int .i64 c, a, b, c', d] 35)) n wD.heap.size c R K ∧ Below n W (wD.alloc (.cells #[.int .i64 c, a, b, c', d] 35)) :=
  ⟨⟨a, b, c', d, Deep.blk_alloc_new _ _, (h.below (below1 _ _)).mono hl, hn, fun x hx => by have := h.blocks_lt hx; omega⟩, hb.alloc hn _⟩

theorem fr_at {a w : World} {P i : Nat} {u : Value} (h : Fr (fun x => x = P) a w) : Fr (fun x => x = P) a (w.setCell ⟨P, i, none⟩ u) := h.setCell (p := ⟨P, i, none⟩) rfl u

theorem doneBox_put {W wD : World} {n lo P : Nat} {c : Int} {R : Bk} {K : Blk} {a b c' d z0 z1 z2 z3 z4 : Value} (y : wD.heap[P]? = some (.cells #[z0, z1, z2, z3, z4] 35 (0, 0))) (h : OwnBook wD lo (.agg #[a, b, c', d]) R K) (hn : n ≤ P) (hp : P < lo) (hb : Below n W wD) :
    DoneBox (((((wD.setCell ⟨P, 0, none⟩ (.int .i64 c)).setCell ⟨P, 1, none⟩ a).setCell ⟨P, 2, none⟩ b).setCell ⟨P, 3, none⟩ c').setCell ⟨P, 4, none⟩ d) n P c R K ∧ Below n W (((((wD.setCell ⟨P, 0, none⟩ (.int .i64 c)).setCell ⟨P, 1, none⟩ a).setCell ⟨P, 2, none⟩ b).setCell ⟨P, 3, none⟩ c').setCell ⟨P, 4, none⟩ d) := by
  have hf : Fr (fun x => x = P) wD (((((wD.setCell ⟨P, 0, none⟩ (.int .i64 c)).setCell ⟨P, 1, none⟩ a).setCell ⟨P, 2, none⟩ b).setCell ⟨P, 3, none⟩ c').setCell ⟨P, 4, none⟩ d) := fr_at (fr_at (fr_at (fr_at (fr_at (Fr.refl _ _)))))
  have hx : ∀ x, bookBlocks R K x → x ≠ P := fun x hx => by have := h.blocks_low hx; omega
  refine ⟨⟨a, b, c', d, (box_set (box_set (box_set (box_set (box_set y _) _) _) _) _).trans rfl, (h.fr hf hx).mono (by omega), hn, hx⟩, ?_⟩
  exact below_set (below_set (below_set (below_set (below_set hb _ _ hn _) _ _ hn _) _ _ hn _) _ _ hn _) _ _ hn _

theorem DoneBox.fr {w w' : World} {lo P : Nat} {c : Int} {R : Bk} {K : Blk} (h : DoneBox w lo P c R K) {S : Nat → Prop} (hf : Fr S w w') (hp : ¬ S P) (hs : ∀ x, bookBlocks R K x → ¬ S x) : DoneBox w' lo P c R K := by
  obtain ⟨a, b, c', d, h1, h2, h3, h4⟩ := h
  exact ⟨a, b, c', d, (hf.block _ (heap_lt h1) hp).trans h1, h2.fr hf hs, h3, h4⟩

theorem DoneBox.below {w w' : World} {lo P : Nat} {c : Int} {R : Bk} {K : Blk} (h : DoneBox w lo P c R K) (hb : Below w.heap.size w w') : DoneBox w' lo P c R K :=
  h.fr (S := fun _ => False) (Fr.of_below hb) (fun h => h) (fun _ _ h => h)

theorem DoneBox.open {w : World} {lo P : Nat} {c : Int} {R : Bk} {K : Blk} (h : DoneBox w lo P c R K) : ∃ ao co al cl ac cc, w.heap[P]? = some (.cells #[.int .i64 c, .int .i64 R.n, .slice ao R.orders.length co, .slice al R.locked.length cl, .slice ac R.occ.length cc] 35 (0, 0)) ∧ OwnBook w lo (.agg #[.int .i64 R.n, .slice ao R.orders.length co, .slice al R.locked.length cl, .slice ac R.occ.length cc]) R K := by
  obtain ⟨a, b, c', d, h1, h2, -⟩ := h
  obtain ⟨ao, co, al, cl, ac, cc, rfl, rfl, rfl, rfl⟩ := bookAt_shape h2.bookAt
  exact ⟨ao, co, al, cl, ac, cc, h1, h2⟩

theorem DoneBox.lt {w : World} {lo P : Nat} {c : Int} {R : Bk} {K : Blk} (h : DoneBox w lo P c R K) : P < w.heap.size ∧ ∀ x, bookBlocks R K x → lo ≤ x ∧ x < w.heap.size := by
  obtain ⟨a, b, c', d, h1, h2, -⟩ := h
  exact ⟨heap_lt h1, fun x hx => ⟨h2.blocks_low hx, h2.blocks_lt hx⟩⟩

theorem done_cells {w : World} {p : Nat} {a b c d e : Value} {t : TypeId} (h : w.heap[p]? = some (.cells #[a, b, c, d, e] t (0, 0))) :
    w.cell? ⟨p, 0, none⟩ = some a ∧ w.cell? ⟨p, 1, none⟩ = some b ∧ w.cell? ⟨p, 2, none⟩ = some c ∧ w.cell? ⟨p, 3, none⟩ = some d ∧ w.cell? ⟨p, 4, none⟩ = some e := by
  simp [World.cell?, h]

/-- What is kept to the end: the law's arguments' boxes, and what the model answered. -/
structure St (w wX : World) (B : Bk) (E : Ev) (ao : Option Addr) (co : Nat) (al : Option Addr) (cl : Nat) (ac : Option Addr) (cc : Nat) (ad : Option Addr) (ca : Nat) (lo P0 : Nat) (n : Int) (R : Bk) (K0 : Blk) (h0 : Nat) : Prop where
  lb : wX.heap[w.heap.size]? = some (.cells #[.int .i64 B.n, .slice ao B.orders.length co, .slice al B.locked.length cl, .slice ac B.occ.length cc] 25 (0, 0))
  le : wX.heap[w.heap.size + 1]? = some (.cells #[.int .i64 E.op, .int .i64 E.of_, .string E.holder, .int .i64 E.kind, .slice ad E.secs.length ca, .string E.text] 28 (0, 0))
  bw : Below w.heap.size w wX
  z : w.heap.size + 1 < h0
  hz : h0 ≤ wX.heap.size
  D : DoneBox wX lo P0 n R K0
  p0 : P0 < h0
  k0 : ∀ x, bookBlocks R K0 x → x < h0

theorem St.fr {w wX wY : World} {B : Bk} {E : Ev} {ao : Option Addr} {co : Nat} {al : Option Addr} {cl : Nat} {ac : Option Addr} {cc : Nat} {ad : Option Addr} {ca lo P0 : Nat} {n : Int} {R : Bk} {K0 : Blk} {h0 : Nat} (h : St w wX B E ao co al cl ac cc ad ca lo P0 n R K0 h0) {S : Nat → Prop} (hf : Fr S wX wY) (hs : ∀ x, S x → h0 ≤ x) : St w wY B E ao co al cl ac cc ad ca lo P0 n R K0 h0 := by
  have z := h.z
  have hz := h.hz
  have p0 := h.p0
  refine ⟨(hf.block _ (by omega) (fun hx => by have := hs _ hx; omega)).trans h.lb, (hf.block _ (by omega) (fun hx => by have := hs _ hx; omega)).trans h.le, h.bw.trans (hf.below (by omega) (fun x hx => by have := hs _ hx; omega)), z, Nat.le_trans hz hf.size, h.D.fr hf (fun hx => by have := hs _ hx; omega) (fun x hb hx => by have := hs _ hx; have := h.k0 x hb; omega), p0, h.k0⟩

theorem St.below {w wX wY : World} {B : Bk} {E : Ev} {ao : Option Addr} {co : Nat} {al : Option Addr} {cl : Nat} {ac : Option Addr} {cc : Nat} {ad : Option Addr} {ca lo P0 : Nat} {n : Int} {R : Bk} {K0 : Blk} {h0 : Nat} (h : St w wX B E ao co al cl ac cc ad ca lo P0 n R K0 h0) (hb : Below wX.heap.size wX wY) : St w wY B E ao co al cl ac cc ad ca lo P0 n R K0 h0 :=
  h.fr (S := fun _ => False) (Fr.of_below hb) (fun _ h => h.elim)

/-- The event handed to the program, in its variable. -/
structure XE (wX : World) (E : Ev) (lo P2 g : Nat) : Prop where
  box : wX.heap[P2]? = some (.cells #[.int .i64 E.op, .int .i64 E.of_, .string E.holder, .int .i64 E.kind, .slice (some ⟨g, 0, none⟩) E.secs.length E.secs.length, .string E.text] 38 (0, 0))
  own : OwnEv wX lo (.agg #[.int .i64 E.op, .int .i64 E.of_, .string E.holder, .int .i64 E.kind, .slice (some ⟨g, 0, none⟩) E.secs.length E.secs.length, .string E.text]) E g
  g0 : lo ≤ g
  g1 : g < P2

theorem XE.fr {wX wY : World} {E : Ev} {lo P2 g : Nat} (h : XE wX E lo P2 g) {S : Nat → Prop} (hf : Fr S wX wY) (hs : ∀ x, S x → x < lo) : XE wY E lo P2 g := by
  have g0 := h.g0
  have g1 := h.g1
  refine ⟨(hf.block _ (heap_lt h.box) (fun hx => by have := hs _ hx; omega)).trans h.box, ⟨h.own.1, h.own.2.1, hf.row h.own.2.2 (fun hx => by have := hs _ hx; omega)⟩, g0, g1⟩

theorem XE.below {wX wY : World} {E : Ev} {lo P2 g : Nat} (h : XE wX E lo P2 g) (hb : Below wX.heap.size wX wY) : XE wY E lo P2 g :=
  h.fr (S := fun _ => False) (Fr.of_below hb) (fun _ h => h.elim)

/-- The book handed to the program, in its variable. -/
structure XB (wX : World) (B : Bk) (ao : Option Addr) (co : Nat) (al : Option Addr) (cl : Nat) (ac : Option Addr) (cc : Nat) (h0 P1 : Nat) (K : Blk) : Prop where
  box : wX.heap[P1]? = some (.cells #[.int .i64 B.n, .slice ao B.orders.length co, .slice al B.locked.length cl, .slice ac B.occ.length cc] 33 (0, 0))
  own : OwnBook wX h0 (.agg #[.int .i64 B.n, .slice ao B.orders.length co, .slice al B.locked.length cl, .slice ac B.occ.length cc]) B K
  k : ∀ x, bookBlocks B K x → h0 ≤ x ∧ x < P1

theorem XB.below {wX wY : World} {B : Bk} {ao : Option Addr} {co : Nat} {al : Option Addr} {cl : Nat} {ac : Option Addr} {cc : Nat} {h0 P1 : Nat} {K : Blk} (h : XB wX B ao co al cl ac cc h0 P1 K) (hb : Below wX.heap.size wX wY) : XB wY B ao co al cl ac cc h0 P1 K :=
  ⟨(hb.block _ (heap_lt h.box)).trans h.box, h.own.below hb, h.k⟩

/-- What the program answered, written over with marks, in its variable. -/
structure XD (wX : World) (n : Int) (R : Bk) (ao : Option Addr) (co : Nat) (al : Option Addr) (cl : Nat) (ac : Option Addr) (cc : Nat) (P3 : Nat) : Prop where
  box : wX.heap[P3]? = some (.cells #[.int .i64 n, .int .i64 R.n, .slice ao R.orders.length co, .slice al R.locked.length cl, .slice ac R.occ.length cc] 35 (0, 0))
  at_ : BookAt wX (.agg #[.int .i64 R.n, .slice ao R.orders.length co, .slice al R.locked.length cl, .slice ac R.occ.length cc]) (mBk R 1)

theorem XD.below {wX wY : World} {n : Int} {R : Bk} {ao : Option Addr} {co : Nat} {al : Option Addr} {cl : Nat} {ac : Option Addr} {cc : Nat} {P3 : Nat} (h : XD wX n R ao co al cl ac cc P3) (hb : Below wX.heap.size wX wY) : XD wY n R ao co al cl ac cc P3 :=
  ⟨(hb.block _ (heap_lt h.box)).trans h.box, h.at_.below hb⟩

end Go.Proofs.YtbgmgfnhmlpehabGreatDoor

/-
  laws.FnExactDo: the walk out of contracts. Mine, by program (wip/ldo.py), by template (wip/gen.py).
-/
namespace Go.Proofs.YtbgmgfnhmlpehabGreatDoor
open Go.RowKit
end Go.Proofs.YtbgmgfnhmlpehabGreatDoor

/-
  The cell 'laid' of Do and Run: the program's eight errors, and the table of powers. Mine, by template (wip/gen.py; written by wip/plaid.py).
-/
namespace Go.Proofs.YtbgmgfnhmlpehabGreatDoor
open Go.RowKit Go.ChangeShapes Go.WideShapes

theorem gTab : Tryz.prog.globalNamed "internal/strconv.uint64pow10" = some 10 := by kernel_rfl
theorem gTabType : (Tryz.prog.globals[10]?).map (·.type) = some 207 := by kernel_rfl
theorem cellsT : Tryz.prog.cellsOf 207 = 20 := by kernel_rfl
theorem cellsE : Tryz.prog.cellsOf 198 = 1 := by kernel_rfl
theorem datumTab : (Rows.laid_internal_strconv_uint64pow10 : DataW Unit) = Lib.tabData .u64 Lib.pow10Tab := by kernel_rfl
theorem errStar : "*" ++ "errors.errorString" = "*errors.errorString" := by decide
theorem errCells : Tryz.prog.cellsOf 228 = 1 := by kernel_rfl
theorem strCells : Tryz.prog.cellsOf 9 = 1 := by kernel_rfl
theorem errRow (u : TypeId) (h : Tryz.prog.typeName? 3 u = some "*errors.errorString") : u = 226 :=
  typeName_ptr_named (nm := "errors.errorString") (by rw [errStar]; kernel_rfl) (by kernel_rfl) (by decide) u (by rw [errStar]; exact h)

set_option maxRecDepth 100000 in
theorem laid_err {n : String} {text : List UInt8} {r : List (String × DataW Unit)} {W : World} {g : Nat} (h : laidMet Tryz.prog ((n, .iface "*errors.errorString" (.ptr (.agg [.lit (.string text)]))) :: r) W)
    (hg : Tryz.prog.globalNamed n = some g) (ht : (Tryz.prog.globals[g]?).map (·.type) = some 73) :
    ∃ a : Addr, W.cell? ⟨g, 0, none⟩ = some (.iface 226 (.pointer (some a))) ∧ (∃ s : ByteArray, W.cell? a = some (.string s) ∧ s.data.toList = text) ∧ ∃ c t, W.heap[a.block]? = some (.cells c t (0, 0)) := by
  obtain ⟨ps, ⟨g0, t0, cs0, f0, p0, q0, hg0, ht0, hv0, hd0, _, e0⟩, _, hrows⟩ := h
  obtain rfl := Option.some.inj (hg.symm.trans hg0)
  obtain rfl := Option.some.inj (ht.symm.trans ht0)
  subst e0
  obtain ⟨l0⟩ := cs0
  have ok0 : ∀ u v, l0 = [.iface u v] → Value.okWide Tryz.prog W .any 0 u v := fun u v e => by
    subst e
    exact (hrows g 0 (by simp [MemPlace.row])).2 u v (by simpa using World.var?_cell hg0 hv0 0)
  obtain ⟨a0, s0, rfl, hc0, hs0, hz0, rfl⟩ := errorString_of_trod Tryz.underlying73 errRow Tryz.underlying226 Tryz.underlying228 rfl rfl Tryz.underlying9 errCells strCells hd0 ok0
  exact ⟨a0, by simpa using World.var?_cell hg0 hv0 0, ⟨s0, hc0, hs0⟩, (hrows a0.block a0.off (by simp [MemPlace.row])).1⟩

def textOf : DataW Unit → List UInt8
  | .iface _ (.ptr (.agg [.lit (.string t)])) => t
  | _ => []

/-- The errors' texts. -/
def errT : Nat → List UInt8
  | 0 => textOf Rows.laid_loop_example_handsignal_impl_errNoEvent
  | 1 => textOf Rows.laid_loop_example_handsignal_impl_errBookFull
  | 2 => textOf Rows.laid_loop_example_handsignal_impl_errState
  | 3 => textOf Rows.laid_loop_example_handsignal_impl_errTaken
  | 4 => textOf Rows.laid_loop_example_handsignal_impl_errNotHolder
  | 5 => textOf Rows.laid_loop_example_handsignal_impl_errLocked
  | 6 => textOf Rows.laid_loop_example_handsignal_impl_errMisheard
  | _ => textOf Rows.laid_loop_example_handsignal_impl_errSomebody

theorem errT_ne : ∀ i, i < 8 → ∀ j, j < 8 → i ≠ j → errT i ≠ errT j := by decide +kernel

theorem errN0 : Tryz.prog.globalNamed "loop.example/handsignal/impl.errNoEvent" = some 0 := by kernel_rfl
theorem errY0 : (Tryz.prog.globals[0]?).map (·.type) = some 73 := by kernel_rfl
theorem errN1 : Tryz.prog.globalNamed "loop.example/handsignal/impl.errBookFull" = some 1 := by kernel_rfl
theorem errY1 : (Tryz.prog.globals[1]?).map (·.type) = some 73 := by kernel_rfl
theorem errN2 : Tryz.prog.globalNamed "loop.example/handsignal/impl.errState" = some 2 := by kernel_rfl
theorem errY2 : (Tryz.prog.globals[2]?).map (·.type) = some 73 := by kernel_rfl
theorem errN3 : Tryz.prog.globalNamed "loop.example/handsignal/impl.errTaken" = some 3 := by kernel_rfl
theorem errY3 : (Tryz.prog.globals[3]?).map (·.type) = some 73 := by kernel_rfl
theorem errN4 : Tryz.prog.globalNamed "loop.example/handsignal/impl.errNotHolder" = some 4 := by kernel_rfl
theorem errY4 : (Tryz.prog.globals[4]?).map (·.type) = some 73 := by kernel_rfl
theorem errN5 : Tryz.prog.globalNamed "loop.example/handsignal/impl.errLocked" = some 5 := by kernel_rfl
theorem errY5 : (Tryz.prog.globals[5]?).map (·.type) = some 73 := by kernel_rfl
theorem errN6 : Tryz.prog.globalNamed "loop.example/handsignal/impl.errMisheard" = some 6 := by kernel_rfl
theorem errY6 : (Tryz.prog.globals[6]?).map (·.type) = some 73 := by kernel_rfl
theorem errN7 : Tryz.prog.globalNamed "loop.example/handsignal/impl.errSomebody" = some 7 := by kernel_rfl
theorem errY7 : (Tryz.prog.globals[7]?).map (·.type) = some 73 := by kernel_rfl

abbrev laidAll : List (String × DataW Unit) := Rows.fnExactDoRow.laid

theorem table_of {W : World} (h : laidMet Tryz.prog laidAll W) : Lib.TabIs Tryz.prog W "internal/strconv.uint64pow10" .u64 Lib.pow10Tab := by
  have h2 := laidMet.tail (laidMet.tail h)
  rw [datumTab] at h2
  exact Lib.tabIs_of_head gTab gTabType Tryz.underlying207 Tryz.underlying198 cellsE cellsT h2

def pick (a0 a1 a2 a3 a4 a5 a6 a7 : Addr) : Nat → Addr
  | 0 => a0
  | 1 => a1
  | 2 => a2
  | 3 => a3
  | 4 => a4
  | 5 => a5
  | 6 => a6
  | _ => a7

theorem errs_of {W : World} (h : laidMet Tryz.prog laidAll W) : ∃ A, Errs W A := by
  have h0 := laidMet.tail (laidMet.tail (laidMet.tail h))
  obtain ⟨a0, v0, s0, b0⟩ := laid_err (text := errT 0) h0 errN0 errY0
  have h1 := laidMet.tail h0
  obtain ⟨a1, v1, s1, b1⟩ := laid_err (text := errT 1) h1 errN1 errY1
  have h2 := laidMet.tail h1
  obtain ⟨a2, v2, s2, b2⟩ := laid_err (text := errT 2) h2 errN2 errY2
  have h3 := laidMet.tail h2
  obtain ⟨a3, v3, s3, b3⟩ := laid_err (text := errT 3) h3 errN3 errY3
  have h4 := laidMet.tail h3
  obtain ⟨a4, v4, s4, b4⟩ := laid_err (text := errT 4) h4 errN4 errY4
  have h5 := laidMet.tail h4
  obtain ⟨a5, v5, s5, b5⟩ := laid_err (text := errT 5) h5 errN5 errY5
  have h6 := laidMet.tail h5
  obtain ⟨a6, v6, s6, b6⟩ := laid_err (text := errT 6) h6 errN6 errY6
  have h7 := laidMet.tail h6
  obtain ⟨a7, v7, s7, b7⟩ := laid_err (text := errT 7) h7 errN7 errY7
  have hs : ∀ k, k < 8 → ∃ s : ByteArray, W.cell? ((pick a0 a1 a2 a3 a4 a5 a6 a7) k) = some (.string s) ∧ s.data.toList = errT k := fun k hk => by
    match k, hk with
    | 0, _ => exact s0
    | 1, _ => exact s1
    | 2, _ => exact s2
    | 3, _ => exact s3
    | 4, _ => exact s4
    | 5, _ => exact s5
    | 6, _ => exact s6
    | 7, _ => exact s7
  refine ⟨(pick a0 a1 a2 a3 a4 a5 a6 a7), fun k hk => ?_, fun k hk => ?_, fun i j hi hj ne e => ?_⟩
  · match k, hk with
    | 0, _ => exact v0
    | 1, _ => exact v1
    | 2, _ => exact v2
    | 3, _ => exact v3
    | 4, _ => exact v4
    | 5, _ => exact v5
    | 6, _ => exact v6
    | 7, _ => exact v7
  · match k, hk with
    | 0, _ => exact b0
    | 1, _ => exact b1
    | 2, _ => exact b2
    | 3, _ => exact b3
    | 4, _ => exact b4
    | 5, _ => exact b5
    | 6, _ => exact b6
    | 7, _ => exact b7
  · obtain ⟨s, hs1, hs2⟩ := hs i hi
    obtain ⟨t, ht1, ht2⟩ := hs j hj
    rw [e] at hs1
    obtain rfl : s = t := by
      have := Option.some.inj (hs1.symm.trans ht1)
      cases this
      rfl
    exact errT_ne i hi j hj ne (hs2.symm.trans ht2)

/-! ### A world for the witness -/

/-- What a listed table holds, as cells. -/
def valsOf : DataW Unit → Array Value
  | .agg ds => (ds.map fun d => match d with | .lit (.int k z) => Value.int k z | _ => Value.bool false).toArray
  | _ => #[]
def putTab (d : DataW Unit) : Obj → Obj
  | .cells _ t frozen => .cells (valsOf d) t frozen
  | o => o
noncomputable def low : Nat := (World.holding Tryz.prog default ⟨#[], #[], []⟩).heap.size
noncomputable def putErr (k : Nat) : Obj → Obj
  | .cells _ t frozen => .cells #[.iface 226 (.pointer (some ⟨low + k, 0, none⟩))] t frozen
  | o => o
def errB (k : Nat) : Obj := .cells #[.string ⟨(errT k).toArray⟩] 228
noncomputable def w0 (os : Os) : World := World.holding Tryz.prog os ⟨#[errB 0, errB 1, errB 2, errB 3, errB 4, errB 5, errB 6, errB 7], #[], []⟩
/-- A world in which the listed variables hold what their initialisers lay. -/
noncomputable def laidWorld (os : Os) : World :=
  { w0 os with heap := ((((((((((((w0 os).heap).modify 0 (putErr 0)).modify 1 (putErr 1)).modify 2 (putErr 2)).modify 3 (putErr 3)).modify 4 (putErr 4)).modify 5 (putErr 5)).modify 6 (putErr 6)).modify 7 (putErr 7)).modify 10 (putTab Rows.laid_internal_strconv_uint64pow10)).modify 11 (putTab Rows.laid_math_bits_deBruijn32tab)).modify 12 (putTab Rows.laid_math_bits_deBruijn64tab) }

theorem trodVars_length {H : Type} {enc : TypeId × Value → H} {P : Program} {w : World} {sp : Nat → Bool} : ∀ {ns : List String} {gs : List (DataW H)} {ps : List MemPlace}, DataW.TrodVars enc P w sp ns gs ps → gs.length = ns.length
  | [], [], _, _ => rfl
  | [], _ :: _, _, h => h.elim
  | _ :: _, [], _, h => h.elim
  | _ :: _, _ :: _, _, ⟨_, _, _, _, _, _, _, _, _, _, hs, _⟩ => by simp [trodVars_length hs]

theorem list8 {α : Type} {l : List α} (h : l.length = 8) : ∃ a b c d e f g i, l = [a, b, c, d, e, f, g, i] := by
  match l, h with
  | [a, b, c, d, e, f, g, i], _ => exact ⟨a, b, c, d, e, f, g, i, rfl⟩

end Go.Proofs.YtbgmgfnhmlpehabGreatDoor

/-
  The row of laws.FnExactDo, and its card. By template (wip/gen.py).
-/
namespace Go.Proofs.YtbgmgfnhmlpehabGreatDoor.fnExactDo
open Go.ChangeShapes Go.WideShapes Go.ChangeAt Go.RowKit

theorem own : ownKnob Tryz.prog.godebug = none := by kernel_rfl
theorem laidOut : laidOutB Tryz.prog = true := by kernel_rfl

abbrev wargs : Array Value := #[.agg #[.int .i64 0, .slice none 0 0, .slice none 0 0, .slice none 0 0], .agg #[.int .i64 0, .int .i64 0, .string ByteArray.empty, .int .i64 0, .slice none 0 0, .string ByteArray.empty]]

theorem laid_met (os : Os) : laidMet Tryz.prog Rows.fnExactDoRow.laid ((laidWorld os).forCall (fun _ _ => 0) ⟨#[], wargs, []⟩).memory :=
  laidMet_of_run' 8 (by kernel_rfl) (by kernel_rfl)
theorem reads (os : Os) {H : Type} (enc : TypeId × Value → H) : ∃ x, DataW.whole enc Tryz.prog ((laidWorld os).forCall (fun _ _ => 0) ⟨#[], wargs, []⟩).memory Tryz.f3.params.toList Rows.fnExactDoSpec.vars false wargs.toList 8 = some x :=
  Option.isSome_iff_exists.1 (by kernel_rfl)

/-- No parameter wants a stand-in. -/
theorem plain (f : FuncId) (fn : Func) (hf : Tryz.pinned.checked.prog.funcNamed "loop.example/handsignal/laws.FnExactDo" = some f) (hfn : Tryz.pinned.checked.prog.funcs[f]? = some fn) :
    true = Tryz.pinned.checked.prog.looks [] ∧ ∀ (j : Nat) t, fn.params[j]? = some t → Tryz.pinned.checked.prog.wantsStandIn t = false := by
  obtain rfl : f = 3 := Option.some.inj ((show Tryz.prog.funcNamed "loop.example/handsignal/laws.FnExactDo" = some 3 by kernel_rfl).symm.trans hf) |>.symm
  obtain rfl : fn = Tryz.f3 := (Option.some.inj (Tryz.func3.symm.trans hfn)).symm
  refine ⟨by kernel_rfl, fun j t ht => ?_⟩
  rw [Tryz.params3] at ht
  have hm : t ∈ [25, 28] := by simpa using Array.mem_of_getElem? ht
  have hall : ([25, 28].all fun u => !Tryz.prog.wantsStandIn u) = true := by kernel_rfl
  exact (show Tryz.prog.wantsStandIn t = false by simpa using List.all_eq_true.1 hall t hm)

end Go.Proofs.YtbgmgfnhmlpehabGreatDoor.fnExactDo
namespace Go.Proofs.YtbgmgfnhmlpehabGreatDoor
theorem fnExactDo_card : Rows.FnExactDoCardSaid := fnExactDo.card
#print axioms fnExactDo_card
end Go.Proofs.YtbgmgfnhmlpehabGreatDoor
