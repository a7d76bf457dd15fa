import Derived.Test.YtdlaekjofgbjcaaGreatDoorRows
import Derived.WalkKit
import Derived.WalkSpells
import Derived.WalkLawsBesides
import Derived.Deep.OwnRows
import Derived.OrdersHeld
import Derived.Deep.RegionHeld
import Derived.Deep.QuietTactic
import Derived.BigQuiet
import Derived.Deep.RegionHeld3
import Derived.Deep.DrawnRows
/-
 Plain notions: what a book in memory holds, as lists. Mine, by template (wip/gen.py).
-/
namespace Go.Proofs.YtdlaekjofgbjcaaGreatDoor
open Go.RowKit
structure Ord where
 holder : ByteArray
 kind : Int
 secs : List Int
 state : Int
structure Bk where
 n : Int
 orders : List Ord
 locked : List Bool
 occ : List Bool
def Ord.zero : Ord := ⟨ByteArray.empty, 0, [], 0⟩
def bX (B : Bk) (i : Nat) : Ord := B.orders.getD i Ord.zero
def Cells (w : World) (ad : Option Addr) (n : Nat) (V : Nat → Value) : Prop :=
 ∃ b o, (0 < n → ad = some ⟨b, o, none⟩) ∧ ∀ i, i < n → w.cell? ⟨b, o + i, none⟩ = some (V i)
def bV (xs : List Bool) (i : Nat) : Value := .bool (xs.getD i false)
def iV (xs : List Int) (i : Nat) : Value := .int .i64 (xs.getD i 0)
theorem Cells.below {w w' : World} {ad : Option Addr} {n : Nat} {V : Nat → Value} (h : Cells w ad n V) (hb : Below w.heap.size w w') : Cells w' ad n V := by
 obtain ⟨b, o, h1, h2⟩ := h; exact ⟨b, o, h1, fun i hi => (hb.cell (p := ⟨b, o + i, none⟩) (World.block_lt_of_cell? _ _ (h2 i hi))).trans (h2 i hi)⟩
structure OrdAt (w : World) (b o : Nat) (x : Ord) (ad : Option Addr) (c : Nat) : Prop where
 c0 : w.cell? ⟨b, o, none⟩ = some (.string x.holder)
 c1 : w.cell? ⟨b, o + 1, none⟩ = some (.int .i64 x.kind)
 c2 : w.cell? ⟨b, o + 2, none⟩ = some (.slice ad x.secs.length c)
 c3 : w.cell? ⟨b, o + 3, none⟩ = some (.int .i64 x.state)
 secs : Cells w ad x.secs.length (iV x.secs)
theorem OrdAt.below {w w' : World} {b o : Nat} {x : Ord} {ad : Option Addr} {c : Nat} (h : OrdAt w b o x ad c) (hb : Below w.heap.size w w') : OrdAt w' b o x ad c := by
 have hl : b < w.heap.size := World.block_lt_of_cell? _ _ h.c0; exact ⟨(hb.cell (p := ⟨b, o, none⟩) hl).trans h.c0, (hb.cell (p := ⟨b, o + 1, none⟩) hl).trans h.c1, (hb.cell (p := ⟨b, o + 2, none⟩) hl).trans h.c2, (hb.cell (p := ⟨b, o + 3, none⟩) hl).trans h.c3, h.secs.below hb⟩
def OrdersAt (w : World) (ad : Option Addr) (xs : List Ord) : Prop :=
 ∃ b o, (0 < xs.length → ad = some ⟨b, o, none⟩) ∧ ∀ i, i < xs.length → ∃ sa sc, OrdAt w b (o + i * 4) (xs.getD i Ord.zero) sa sc
theorem OrdersAt.below {w w' : World} {ad : Option Addr} {xs : List Ord} (h : OrdersAt w ad xs) (hb : Below w.heap.size w w') : OrdersAt w' ad xs := by
 obtain ⟨b, o, h1, h2⟩ := h; exact ⟨b, o, h1, fun i hi => by obtain ⟨sa, sc, h3⟩ := h2 i hi; exact ⟨sa, sc, h3.below hb⟩⟩
def BookAt (w : World) (v : Value) (B : Bk) : Prop :=
 ∃ ao co al cl ac cc, v = .agg #[.int .i64 B.n, .slice ao B.orders.length co, .slice al B.locked.length cl, .slice ac B.occ.length cc] ∧
  OrdersAt w ao B.orders ∧ Cells w al B.locked.length (bV B.locked) ∧ Cells w ac B.occ.length (bV B.occ)
theorem BookAt.below {w w' : World} {v : Value} {B : Bk} (h : BookAt w v B) (hb : Below w.heap.size w w') : BookAt w' v B := by
 obtain ⟨ao, co, al, cl, ac, cc, e, h1, h2, h3⟩ := h; exact ⟨ao, co, al, cl, ac, cc, e, h1.below hb, h2.below hb, h3.below hb⟩
theorem below_trans {B : Nat} {a b c : World} (h : Below B a b) (hB : B ≤ b.heap.size) (k : Below b.heap.size b c) : Below B a c := h.trans (k.mono hB)
theorem bcell {W w1 : World} (hb : Below W.heap.size W w1) : (∀ b o, b < W.heap.size → w1.cell? ⟨b, o, none⟩ = W.cell? ⟨b, o, none⟩) ∧ (∀ b o, b < W.heap.size → w1.frozen? ⟨b, o, none⟩ = W.frozen? ⟨b, o, none⟩) :=
 ⟨fun b o h => hb.cell (p := ⟨b, o, none⟩) h, fun b o h => hb.frozen (p := ⟨b, o, none⟩) h⟩
theorem below2 (w : World) (x y : Obj) : Below w.heap.size w ((w.alloc x).alloc y) := ((Below.refl _ _).alloc (Nat.le_refl _) _).alloc (by simp) _
theorem below1 (w : World) (x : Obj) : Below w.heap.size w (w.alloc x) := (Below.refl _ _).alloc (Nat.le_refl _) _
theorem below3 (w : World) (x y z : Obj) : Below w.heap.size w (((w.alloc x).alloc y).alloc z) := (below2 w x y).alloc (by simp; omega) _
end Go.Proofs.YtdlaekjofgbjcaaGreatDoor
/-
 A short word for 'this operation is taken first'. Mine, by template (wip/gen.py).
-/
namespace Go.Proofs.YtdlaekjofgbjcaaGreatDoor
open Go.RowKit
theorem tk {P : Program} {ops : Array Oper} {Q : Exit → Act → World → Prop} {md : Region.Mode} {S : World → Prop} (i : Nat) {oi : Oper} {v : Value} {fuel : Nat} {listed : Array Bool} {a : Act} {w : World} (hi : ops[i]? = some oi)
  (h : wpAnyH P md ops Q S fuel (listed.setIfInBounds i true) (a.put oi.dst v) w)
  (hy : ∀ w, S w → (execOp a.eval oi).run P w = .ok (.value v) w := by (intro w hSw; (try dsimp only at hSw); go_simp; try (with_reducible rfl)))
  (hs : Region.noSelect ops = true := by kernel_rfl) (hf : Region.free md ops listed i = true := by kernel_rfl) (hr : (Region.ready md ops listed).contains i = true := by kernel_rfl)
  (hw : Region.wanted oi (yielded ops a.tmps) = true := by kernel_rfl)
  (hQ : ∀ c a w, Q (.panic c) (a.put oi.dst v) w → Q (.panic c) a w := by exact fun _ _ _ h => h)
  (hS : S w := by assumption) : wpAnyH P md ops Q S (fuel + 1) listed a w :=
 wpAnyH_take hi hs hf hr hQ (Or.inl ⟨hw, hy⟩) hS h
theorem tu {P : Program} {ops : Array Oper} {Q : Exit → Act → World → Prop} {md : Region.Mode} {S : World → Prop} (i : Nat) {oi : Oper} {fuel : Nat} {listed : Array Bool} {a : Act} {w : World} (hi : ops[i]? = some oi)
  (h : wpAnyH P md ops Q S fuel (listed.setIfInBounds i true) (a.put oi.dst undef) w)
  (hs : Region.noSelect ops = true := by kernel_rfl) (hf : Region.free md ops listed i = true := by kernel_rfl) (hr : (Region.ready md ops listed).contains i = true := by kernel_rfl)
  (hw : Region.wanted oi (yielded ops a.tmps) = false := by kernel_rfl)
  (hQ : ∀ c a w, Q (.panic c) (a.put oi.dst undef) w → Q (.panic c) a w := by exact fun _ _ _ h => h)
  (hS : S w := by assumption) : wpAnyH P md ops Q S (fuel + 1) listed a w :=
 wpAnyH_take hi hs hf hr hQ (Or.inr ⟨hw, rfl⟩) hS h
theorem rdy1 {P : Program} {ops : Array Oper} {Q : Exit → Act → World → Prop} {md : Region.Mode} {S : World → Prop} (i : Nat) {o : Oper} {fuel : Nat} {listed : Array Bool} {a : Act} {w : World} (ho : ops[i]? = some o)
  (h : ∀ K' : Act → World → Prop, Shut (∀ a w, S w → (S w → wpAnyH P md ops Q S fuel (listed.setIfInBounds i true) a w) → K' a w) → if Region.wanted o (yielded ops a.tmps) = true then Oper.wp P o a w K' Q else K' (a.put o.dst undef) w)
  (hr : Region.ready md ops listed = [i] := by kernel_rfl) : wpAnyH P md ops Q S (fuel + 1) listed a w :=
 wpAnyH_ready hr (by simp) (AllReadyH.cons ho h AllReadyH.nil)
theorem ta {P : Program} {ops : Array Oper} {Q : Exit → Act → World → Prop} {md : Region.Mode} (i : Nat) {oi : Oper} {v : Value} {fuel : Nat} {listed : Array Bool} {a : Act} {w : World} (hi : ops[i]? = some oi)
  (h : wpAny P md ops Q fuel (listed.setIfInBounds i true) (a.put oi.dst v) w)
  (hy : ∀ w, (execOp a.eval oi).run P w = .ok (.value v) w := by (intro w; go_simp; try (with_reducible rfl)))
  (hs : Region.noSelect ops = true := by kernel_rfl) (hf : Region.free md ops listed i = true := by kernel_rfl) (hr : (Region.ready md ops listed).contains i = true := by kernel_rfl)
  (hw : Region.wanted oi (yielded ops a.tmps) = true := by kernel_rfl)
  (hQ : ∀ c a w, Q (.panic c) (a.put oi.dst v) w → Q (.panic c) a w := by exact fun _ _ _ h => h) : wpAny P md ops Q (fuel + 1) listed a w :=
 wpAny_take hi hs hf hr hQ (Or.inl ⟨hw, hy⟩) h
theorem tb {P : Program} {ops : Array Oper} {Q : Exit → Act → World → Prop} {md : Region.Mode} (i : Nat) {oi : Oper} {fuel : Nat} {listed : Array Bool} {a : Act} {w : World} (hi : ops[i]? = some oi)
  (h : wpAny P md ops Q fuel (listed.setIfInBounds i true) (a.put oi.dst undef) w)
  (hs : Region.noSelect ops = true := by kernel_rfl) (hf : Region.free md ops listed i = true := by kernel_rfl) (hr : (Region.ready md ops listed).contains i = true := by kernel_rfl)
  (hw : Region.wanted oi (yielded ops a.tmps) = false := by kernel_rfl)
  (hQ : ∀ c a w, Q (.panic c) (a.put oi.dst undef) w → Q (.panic c) a w := by exact fun _ _ _ h => h) : wpAny P md ops Q (fuel + 1) listed a w :=
 wpAny_take hi hs hf hr hQ (Or.inr ⟨hw, rfl⟩) h
theorem ra1 {P : Program} {ops : Array Oper} {Q : Exit → Act → World → Prop} {md : Region.Mode} (i : Nat) {o : Oper} {fuel : Nat} {listed : Array Bool} {a : Act} {w : World} (ho : ops[i]? = some o)
  (h : ∀ K' : Act → World → Prop, (∀ a w, wpAny P md ops Q fuel (listed.setIfInBounds i true) a w → K' a w) → if Region.wanted o (yielded ops a.tmps) = true then Oper.wp P o a w K' Q else K' (a.put o.dst undef) w)
  (hr : Region.ready md ops listed = [i] := by kernel_rfl) : wpAny P md ops Q (fuel + 1) listed a w :=
 wpAny_ready hr (by simp) (AllReady.cons ho h AllReady.nil)
end Go.Proofs.YtdlaekjofgbjcaaGreatDoor
/-
 The contracts of laws.szIntS, szBoolS, szOrder, szOrderS, szBook. Mine, by template (wip/gen.py).
-/
namespace Go.Proofs.YtdlaekjofgbjcaaGreatDoor
open Go.RowKit
end Go.Proofs.YtdlaekjofgbjcaaGreatDoor
/-
 Books that own their memory, every list in a block of its own. Mine, by template (wip/gen.py).
-/
namespace Go.Proofs.YtdlaekjofgbjcaaGreatDoor
open Go.RowKit
def Pre (w : World) (b : Nat) (t : TypeId) (n : Nat) (f : Nat → Value) : Prop :=
 ∃ c : Array Value, w.heap[b]? = some (.cells c t (0, 0)) ∧ n ≤ c.size ∧ ∀ i, i < n → c[i]? = some (f i)
theorem Pre.cell {w : World} {b : Nat} {t : TypeId} {n : Nat} {f : Nat → Value} (h : Pre w b t n f) {i : Nat} (hi : i < n) : w.cell? ⟨b, i, none⟩ = some (f i) := by
 obtain ⟨c, hb, _, hc⟩ := h; simp [World.cell?, hb, hc i hi]
theorem Pre.frozen {w : World} {b : Nat} {t : TypeId} {n : Nat} {f : Nat → Value} (h : Pre w b t n f) (i : Nat) : w.frozen? ⟨b, i, none⟩ = false := by
 obtain ⟨c, hb, _, _⟩ := h; simp [World.frozen?, hb]
theorem Pre.lt {w : World} {b : Nat} {t : TypeId} {n : Nat} {f : Nat → Value} (h : Pre w b t n f) : b < w.heap.size := by
 obtain ⟨c, hb, _, _⟩ := h; obtain ⟨hlt, _⟩ := Array.getElem?_eq_some_iff.1 hb; exact hlt
theorem Pre.congr {w : World} {b : Nat} {t : TypeId} {n : Nat} {f g : Nat → Value} (h : Pre w b t n f) (e : ∀ i, i < n → f i = g i) : Pre w b t n g := by
 obtain ⟨c, hb, hn, hc⟩ := h; exact ⟨c, hb, hn, fun i hi => by rw [hc i hi, e i hi]⟩
theorem Pre.of_block {w w' : World} {b : Nat} {t : TypeId} {n : Nat} {f : Nat → Value} (h : Pre w b t n f) (e : w'.heap[b]? = w.heap[b]?) : Pre w' b t n f := by
 obtain ⟨c, hb, hn, hc⟩ := h; exact ⟨c, e.trans hb, hn, hc⟩
theorem Pre.set {w : World} {b : Nat} {t : TypeId} {n : Nat} {f : Nat → Value} (h : Pre w b t n f) (i : Nat) (v : Value) : Pre (w.setCell ⟨b, i, none⟩ v) b t n (fun j => if j = i then v else f j) := by
 obtain ⟨c, hb, hn, hc⟩ := h; refine ⟨c.setIfInBounds i v, ?_, by simpa using hn, fun j hj => ?_⟩
 · simp [World.setCell, Array.getElem?_modify, hb]
 ·
  rw [Array.getElem?_setIfInBounds]
  by_cases e : j = i
  ·
   subst e; rw [if_pos rfl, if_pos (by omega)]; simp
  ·
   rw [if_neg (fun h => e h.symm)]; show c[j]? = some (if j = i then v else f j)
   rw [if_neg e]; exact hc j hj
theorem Pre.setOther {w : World} {b : Nat} {t : TypeId} {n : Nat} {f : Nat → Value} (h : Pre w b t n f) {a : Addr} (ha : b ≠ a.block) (v : Value) : Pre (w.setCell a v) b t n f := h.of_block (Deep.blk_setCell_other _ _ _ _ ha)
theorem preOf {w : World} {b : Nat} {t : TypeId} {n : Nat} {f : Nat → Value} (h : w.rowIs b t n f) : Pre w b t n f := by
 obtain ⟨c, hb, hn, hc⟩ := h; exact ⟨c, hb, by omega, hc⟩
def ordCell (x : Ord) (ad : Option Addr) (c : Nat) : Nat → Value
 | 0 => .string x.holder
 | 1 => .int .i64 x.kind
 | 2 => .slice ad x.secs.length c
 | _ => .int .i64 x.state
def ordCells (X : Nat → Ord) (sa : Nat → Option Addr) (sc : Nat → Nat) (j : Nat) : Value := ordCell (X (j / 4)) (sa (j / 4)) (sc (j / 4)) (j % 4)
structure OwnOrds (w : World) (lo : Nat) (ad : Option Addr) (n : Nat) (X : Nat → Ord) (G : Nat) (gs : Nat → Nat) (sa : Nat → Option Addr) (sc : Nat → Nat) : Prop where
 head : 0 < n → ad = some ⟨G, 0, none⟩
 row : 0 < n → Pre w G 41 (n * 4) (ordCells X sa sc)
 low : 0 < n → lo ≤ G
 sec : ∀ i, i < n → 0 < (X i).secs.length → sa i = some ⟨gs i, 0, none⟩ ∧ Pre w (gs i) 3 (X i).secs.length (iV (X i).secs)
 slow : ∀ i, i < n → 0 < (X i).secs.length → lo ≤ gs i ∧ gs i ≠ G
 inj : ∀ i j, i < n → j < n → 0 < (X i).secs.length → 0 < (X j).secs.length → gs i = gs j → i = j
theorem OwnOrds.ordAt {w : World} {lo : Nat} {ad : Option Addr} {n : Nat} {X : Nat → Ord} {G : Nat} {gs : Nat → Nat} {sa : Nat → Option Addr} {sc : Nat → Nat} (h : OwnOrds w lo ad n X G gs sa sc) {i : Nat} (hi : i < n) :
  OrdAt w G (i * 4) (X i) (sa i) (sc i) := by
 have hr := h.row (by omega); have d : ∀ r, r < 4 → (i * 4 + r) / 4 = i ∧ (i * 4 + r) % 4 = r := fun r hr => by omega
 refine ⟨?_, ?_, ?_, ?_, ?_⟩
 ·
  have := hr.cell (i := i * 4 + 0) (by omega); rw [Nat.add_zero] at this; rw [this]; have this := d 0 (by omega); rw [Nat.add_zero] at this; simp only [ordCells]; rw [this.1, this.2]; rfl
 ·
  have := hr.cell (i := i * 4 + 1) (by omega); rw [this]; simp only [ordCells]; rw [(d 1 (by omega)).1, (d 1 (by omega)).2]; rfl
 ·
  have := hr.cell (i := i * 4 + 2) (by omega); rw [this]; simp only [ordCells]; rw [(d 2 (by omega)).1, (d 2 (by omega)).2]; rfl
 ·
  have := hr.cell (i := i * 4 + 3) (by omega); rw [this]; simp only [ordCells]; rw [(d 3 (by omega)).1, (d 3 (by omega)).2]; rfl
 ·
  refine ⟨gs i, 0, fun hp => (h.sec i hi hp).1, fun j hj => ?_⟩; have := (h.sec i hi (by omega)).2.cell hj; rw [Nat.zero_add]; exact this
theorem OwnOrds.below {w w' : World} {lo : Nat} {ad : Option Addr} {n : Nat} {X : Nat → Ord} {G : Nat} {gs : Nat → Nat} {sa : Nat → Option Addr} {sc : Nat → Nat} (h : OwnOrds w lo ad n X G gs sa sc) (hb : Below w.heap.size w w') : OwnOrds w' lo ad n X G gs sa sc :=
 ⟨h.head, fun hp => (h.row hp).of_block (hb.block _ (h.row hp).lt), h.low, fun i hi hp => ⟨(h.sec i hi hp).1, (h.sec i hi hp).2.of_block (hb.block _ (h.sec i hi hp).2.lt)⟩, h.slow, h.inj⟩
structure OwnBools (w : World) (lo : Nat) (ad : Option Addr) (n : Nat) (V : Nat → Bool) (G : Nat) : Prop where
 head : 0 < n → ad = some ⟨G, 0, none⟩
 row : 0 < n → Pre w G 4 n (fun i => .bool (V i))
 low : 0 < n → lo ≤ G
theorem OwnBools.cells {w : World} {lo : Nat} {ad : Option Addr} {n : Nat} {V : Nat → Bool} {G : Nat} (h : OwnBools w lo ad n V G) : Cells w ad n (fun i => .bool (V i)) :=
 ⟨G, 0, h.head, fun i hi => by rw [Nat.zero_add]; exact (h.row (by omega)).cell hi⟩
theorem OwnBools.below {w w' : World} {lo : Nat} {ad : Option Addr} {n : Nat} {V : Nat → Bool} {G : Nat} (h : OwnBools w lo ad n V G) (hb : Below w.heap.size w w') : OwnBools w' lo ad n V G :=
 ⟨h.head, fun hp => (h.row hp).of_block (hb.block _ (h.row hp).lt), h.low⟩
theorem OwnOrds.mono {w : World} {lo lo' : Nat} {ad : Option Addr} {n : Nat} {X : Nat → Ord} {G : Nat} {gs : Nat → Nat} {sa : Nat → Option Addr} {sc : Nat → Nat} (h : OwnOrds w lo ad n X G gs sa sc) (hl : lo' ≤ lo) : OwnOrds w lo' ad n X G gs sa sc :=
 ⟨h.head, h.row, fun hp => Nat.le_trans hl (h.low hp), h.sec, fun i hi hp => ⟨Nat.le_trans hl (h.slow i hi hp).1, (h.slow i hi hp).2⟩, h.inj⟩
theorem OwnBools.mono {w : World} {lo lo' : Nat} {ad : Option Addr} {n : Nat} {V : Nat → Bool} {G : Nat} (h : OwnBools w lo ad n V G) (hl : lo' ≤ lo) : OwnBools w lo' ad n V G :=
 ⟨h.head, h.row, fun hp => Nat.le_trans hl (h.low hp)⟩
theorem OwnOrds.lt {w : World} {lo : Nat} {ad : Option Addr} {n : Nat} {X : Nat → Ord} {G : Nat} {gs : Nat → Nat} {sa : Nat → Option Addr} {sc : Nat → Nat} (h : OwnOrds w lo ad n X G gs sa sc) : (0 < n → G < w.heap.size) ∧ ∀ i, i < n → 0 < (X i).secs.length → gs i < w.heap.size :=
 ⟨fun hp => (h.row hp).lt, fun i hi hp => (h.sec i hi hp).2.lt⟩
structure Blk where
 G : Nat
 gs : Nat → Nat
 sa : Nat → Option Addr
 sc : Nat → Nat
 L : Nat
 C : Nat
structure OwnBook (w : World) (lo : Nat) (v : Value) (B : Bk) (K : Blk) : Prop where
 shape : ∃ ao co al cl ac cc, v = .agg #[.int .i64 B.n, .slice ao B.orders.length co, .slice al B.locked.length cl, .slice ac B.occ.length cc] ∧
  OwnOrds w lo ao B.orders.length (fun i => B.orders.getD i Ord.zero) K.G K.gs K.sa K.sc ∧ OwnBools w lo al B.locked.length (fun i => B.locked.getD i false) K.L ∧ OwnBools w lo ac B.occ.length (fun i => B.occ.getD i false) K.C
 lg : 0 < B.orders.length → 0 < B.locked.length → K.L ≠ K.G
 cg : 0 < B.orders.length → 0 < B.occ.length → K.C ≠ K.G
 lc : 0 < B.locked.length → 0 < B.occ.length → K.L ≠ K.C
 ls : 0 < B.locked.length → ∀ i, i < B.orders.length → 0 < (B.orders.getD i Ord.zero).secs.length → K.gs i ≠ K.L
 cs : 0 < B.occ.length → ∀ i, i < B.orders.length → 0 < (B.orders.getD i Ord.zero).secs.length → K.gs i ≠ K.C
theorem OwnOrds.ordersAt {w : World} {lo : Nat} {ad : Option Addr} {xs : List Ord} {G : Nat} {gs : Nat → Nat} {sa : Nat → Option Addr} {sc : Nat → Nat} (h : OwnOrds w lo ad xs.length (fun i => xs.getD i Ord.zero) G gs sa sc) : OrdersAt w ad xs :=
 ⟨G, 0, h.head, fun i hi => ⟨sa i, sc i, by rw [Nat.zero_add]; exact h.ordAt hi⟩⟩
theorem OwnBook.bookAt {w : World} {lo : Nat} {v : Value} {B : Bk} {K : Blk} (h : OwnBook w lo v B K) : BookAt w v B := by
 obtain ⟨ao, co, al, cl, ac, cc, e, h1, h2, h3⟩ := h.shape; exact ⟨ao, co, al, cl, ac, cc, e, h1.ordersAt, h2.cells, h3.cells⟩
theorem OwnBook.below {w w' : World} {lo : Nat} {v : Value} {B : Bk} {K : Blk} (h : OwnBook w lo v B K) (hb : Below w.heap.size w w') : OwnBook w' lo v B K := by
 obtain ⟨⟨ao, co, al, cl, ac, cc, e, h1, h2, h3⟩, q1, q2, q3, q4, q5⟩ := h; exact ⟨⟨ao, co, al, cl, ac, cc, e, h1.below hb, h2.below hb, h3.below hb⟩, q1, q2, q3, q4, q5⟩
/-! ### Orders laid one by one -/
end Go.Proofs.YtdlaekjofgbjcaaGreatDoor
/-
 What has turned: only these blocks. Mine, by template (wip/gen.py).
-/
namespace Go.Proofs.YtdlaekjofgbjcaaGreatDoor
open Go.RowKit
structure Fr (S : Nat → Prop) (w w' : World) : Prop where
 os : w'.os = w.os
 tape : w'.tape = w.tape
 output : w'.output = w.output
 size : w.heap.size ≤ w'.heap.size
 block : ∀ b, b < w.heap.size → ¬ S b → w'.heap[b]? = w.heap[b]?
theorem Fr.refl (S : Nat → Prop) (w : World) : Fr S w w := ⟨rfl, rfl, rfl, Nat.le_refl _, fun _ _ _ => rfl⟩
theorem Fr.trans {S : Nat → Prop} {a b c : World} (h : Fr S a b) (k : Fr S b c) : Fr S a c :=
 ⟨k.os.trans h.os, k.tape.trans h.tape, k.output.trans h.output, Nat.le_trans h.size k.size, fun i hi hs => (k.block i (Nat.lt_of_lt_of_le hi h.size) hs).trans (h.block i hi hs)⟩
theorem Fr.of_below {S : Nat → Prop} {a b : World} (h : Below a.heap.size a b) : Fr S a b := ⟨h.os, h.tape, h.output, h.size, fun i hi _ => h.block i hi⟩
theorem Fr.mono {S T : Nat → Prop} {a b : World} (h : Fr S a b) (hs : ∀ i, S i → T i) : Fr T a b := ⟨h.os, h.tape, h.output, h.size, fun i hi ht => h.block i hi (fun hsi => ht (hs i hsi))⟩
theorem Fr.setCell {S : Nat → Prop} {a w : World} (h : Fr S a w) {p : Addr} (hp : S p.block) (u : Value) : Fr S a (w.setCell p u) :=
 h.trans ⟨rfl, rfl, rfl, by simp [World.setCell], fun k _ hk => Below.heap_setCell _ _ _ _ (fun e => hk (e ▸ hp))⟩
theorem Fr.alloc {S : Nat → Prop} {a w : World} (h : Fr S a w) (o : Obj) : Fr S a (w.alloc o) :=
 h.trans (Fr.of_below (below1 w o))
theorem Fr.below {S : Nat → Prop} {a b : World} (h : Fr S a b) {B : Nat} (hB : B ≤ a.heap.size) (hs : ∀ i, S i → B ≤ i) : Below B a b :=
 ⟨h.os, h.tape, h.output, h.size, fun i hi => h.block i (by omega) (fun hsi => by have := hs i hsi; omega)⟩
theorem Fr.row {S : Nat → Prop} {a b : World} (h : Fr S a b) {g : Nat} {t : TypeId} {n : Nat} {f : Nat → Value} (hr : Pre a g t n f) (hs : ¬ S g) : Pre b g t n f := hr.of_block (h.block _ hr.lt hs)
def ordBlocks (n : Nat) (X : Nat → Ord) (G : Nat) (gs : Nat → Nat) (b : Nat) : Prop := (0 < n ∧ b = G) ∨ ∃ i, i < n ∧ 0 < (X i).secs.length ∧ b = gs i
theorem OwnOrds.congr {w : World} {lo : Nat} {ad : Option Addr} {n : Nat} {X Y : Nat → Ord} {G : Nat} {gs : Nat → Nat} {sa : Nat → Option Addr} {sc : Nat → Nat} (h : OwnOrds w lo ad n X G gs sa sc) (e : ∀ i, i < n → X i = Y i) : OwnOrds w lo ad n Y G gs sa sc :=
 ⟨h.head, fun hp => (h.row hp).congr (fun j hj => by unfold ordCells; rw [e (j / 4) (by omega)]), h.low, fun i hi hp => by rw [← e i hi] at hp ⊢; exact h.sec i hi hp, fun i hi hp => by rw [← e i hi] at hp; exact h.slow i hi hp,
  fun i j hi hj hp hp' => by rw [← e i hi] at hp; rw [← e j hj] at hp'; exact h.inj i j hi hj hp hp'⟩
theorem OwnOrds.fr {w w' : World} {lo : Nat} {ad : Option Addr} {n : Nat} {X : Nat → Ord} {G : Nat} {gs : Nat → Nat} {sa : Nat → Option Addr} {sc : Nat → Nat} (h : OwnOrds w lo ad n X G gs sa sc) {S : Nat → Prop} (hf : Fr S w w') (hs : ∀ b, ordBlocks n X G gs b → ¬ S b) : OwnOrds w' lo ad n X G gs sa sc :=
 ⟨h.head, fun hp => hf.row (h.row hp) (hs _ (Or.inl ⟨hp, rfl⟩)), h.low, fun i hi hp => ⟨(h.sec i hi hp).1, hf.row (h.sec i hi hp).2 (hs _ (Or.inr ⟨i, hi, hp, rfl⟩))⟩, h.slow, h.inj⟩
theorem OwnBools.fr {w w' : World} {lo : Nat} {ad : Option Addr} {n : Nat} {V : Nat → Bool} {G : Nat} (h : OwnBools w lo ad n V G) {S : Nat → Prop} (hf : Fr S w w') (hs : 0 < n → ¬ S G) : OwnBools w' lo ad n V G :=
 ⟨h.head, fun hp => hf.row (h.row hp) (hs hp), h.low⟩
def bookBlocks (B : Bk) (K : Blk) (b : Nat) : Prop := ordBlocks B.orders.length (bX B) K.G K.gs b ∨ (0 < B.locked.length ∧ b = K.L) ∨ (0 < B.occ.length ∧ b = K.C)
theorem OwnBook.blocks_low {w : World} {lo : Nat} {v : Value} {B : Bk} {K : Blk} (h : OwnBook w lo v B K) {b : Nat} (hb : bookBlocks B K b) : lo ≤ b := by
 obtain ⟨ao, co, al, cl, ac, cc, _, h1, h2, h3⟩ := h.shape; rcases hb with (⟨hp, rfl⟩ | ⟨i, hi, hp, rfl⟩) | ⟨hp, rfl⟩ | ⟨hp, rfl⟩
 · exact h1.low hp
 · exact (h1.slow i hi hp).1
 · exact h2.low hp
 · exact h3.low hp
theorem OwnBook.blocks_lt {w : World} {lo : Nat} {v : Value} {B : Bk} {K : Blk} (h : OwnBook w lo v B K) {b : Nat} (hb : bookBlocks B K b) : b < w.heap.size := by
 obtain ⟨ao, co, al, cl, ac, cc, _, h1, h2, h3⟩ := h.shape; rcases hb with (⟨hp, rfl⟩ | ⟨i, hi, hp, rfl⟩) | ⟨hp, rfl⟩ | ⟨hp, rfl⟩
 · exact (h1.row hp).lt
 · exact (h1.sec i hi hp).2.lt
 · exact (h2.row hp).lt
 · exact (h3.row hp).lt
theorem OwnBook.fr {w w' : World} {lo : Nat} {v : Value} {B : Bk} {K : Blk} (h : OwnBook w lo v B K) {S : Nat → Prop} (hf : Fr S w w') (hs : ∀ b, bookBlocks B K b → ¬ S b) : OwnBook w' lo v B K := by
 obtain ⟨⟨ao, co, al, cl, ac, cc, e, h1, h2, h3⟩, q1, q2, q3, q4, q5⟩ := h; exact ⟨⟨ao, co, al, cl, ac, cc, e, h1.fr hf (fun b hb => hs b (Or.inl hb)), h2.fr hf (fun hp => hs _ (Or.inr (Or.inl ⟨hp, rfl⟩))), h3.fr hf (fun hp => hs _ (Or.inr (Or.inr ⟨hp, rfl⟩)))⟩, q1, q2, q3, q4, q5⟩
theorem box_cells {w : World} {p : Nat} {a b c d : Value} {t : TypeId} (h : w.heap[p]? = some (.cells #[a, b, c, d] t (0, 0))) :
  w.cell? ⟨p, 0, none⟩ = some a ∧ w.cell? ⟨p, 1, none⟩ = some b ∧ w.cell? ⟨p, 2, none⟩ = some c ∧ w.cell? ⟨p, 3, none⟩ = some d := by
 simp [World.cell?, h]
end Go.Proofs.YtdlaekjofgbjcaaGreatDoor
/-
 The contracts of laws.toIntS, toBoolS, toOrder, toOrderS, toBook: new memory that holds the same. Mine, by template (wip/gen.py).
-/
namespace Go.Proofs.YtdlaekjofgbjcaaGreatDoor
open Go.RowKit
theorem Tryz.infoInt : (Tryz.prog.info? 3).map (fun i => (i.zero, i.size, i.bytes)) = some (some (.int .i64 0), 1, 8) := by kernel_rfl
theorem Tryz.infoBool : (Tryz.prog.info? 4).map (fun i => (i.zero, i.size, i.bytes)) = some (some (.bool false), 1, 1) := by kernel_rfl
theorem Tryz.infoOrder : (Tryz.prog.info? 41).map (fun i => (i.zero, i.size, i.bytes)) = some (some (.agg #[.string ByteArray.empty, .int .i64 0, .slice none 0 0, .int .i64 0]), 4, 56) := by kernel_rfl
end Go.Proofs.YtdlaekjofgbjcaaGreatDoor
/-
 The contracts of laws.eqBoolS, eqIntS, eqOrder, eqOrderS, eqBook: where the two are the same, true. Mine, by template (wip/gen.py).
-/
namespace Go.Proofs.YtdlaekjofgbjcaaGreatDoor
open Go.RowKit
end Go.Proofs.YtdlaekjofgbjcaaGreatDoor
