/-
  Books that own their memory, every list in a block of its own. Mine, by template (wip/gen.py).
-/
import Derived.Test.YtbgmgfnhmlpehaaDoorBase
namespace Go.Proofs.YtbgmgfnhmlpehaaDoor
open Go.RowKit

/-- The first n cells of block b hold f; none of it is frozen. -/
def Pre (w : World) (b : Nat) (t : TypeId) (n : Nat) (f : Nat → Value) : Prop :=
  ∃ c : Array Value, w.heap[b]? = some (.cells c t (0, 0)) ∧ n ≤ c.size ∧ ∀ i, i < n → c[i]? = some (f i)

theorem Pre.cell {w : World} {b : Nat} {t : TypeId} {n : Nat} {f : Nat → Value} (h : Pre w b t n f) {i : Nat} (hi : i < n) : w.cell? ⟨b, i, none⟩ = some (f i) := by
  obtain ⟨c, hb, _, hc⟩ := h
  simp [World.cell?, hb, hc i hi]
theorem Pre.frozen {w : World} {b : Nat} {t : TypeId} {n : Nat} {f : Nat → Value} (h : Pre w b t n f) (i : Nat) : w.frozen? ⟨b, i, none⟩ = false := by
  obtain ⟨c, hb, _, _⟩ := h
  simp [World.frozen?, hb]
theorem Pre.lt {w : World} {b : Nat} {t : TypeId} {n : Nat} {f : Nat → Value} (h : Pre w b t n f) : b < w.heap.size := by
  obtain ⟨c, hb, _, _⟩ := h
  obtain ⟨hlt, _⟩ := Array.getElem?_eq_some_iff.1 hb
  exact hlt
theorem Pre.congr {w : World} {b : Nat} {t : TypeId} {n : Nat} {f g : Nat → Value} (h : Pre w b t n f) (e : ∀ i, i < n → f i = g i) : Pre w b t n g := by
  obtain ⟨c, hb, hn, hc⟩ := h
  exact ⟨c, hb, hn, fun i hi => by rw [hc i hi, e i hi]⟩
theorem Pre.of_block {w w' : World} {b : Nat} {t : TypeId} {n : Nat} {f : Nat → Value} (h : Pre w b t n f) (e : w'.heap[b]? = w.heap[b]?) : Pre w' b t n f := by
  obtain ⟨c, hb, hn, hc⟩ := h
  exact ⟨c, e.trans hb, hn, hc⟩
theorem Pre.set {w : World} {b : Nat} {t : TypeId} {n : Nat} {f : Nat → Value} (h : Pre w b t n f) (i : Nat) (v : Value) : Pre (w.setCell ⟨b, i, none⟩ v) b t n (fun j => if j = i then v else f j) := by
  obtain ⟨c, hb, hn, hc⟩ := h
  refine ⟨c.setIfInBounds i v, ?_, by simpa using hn, fun j hj => ?_⟩
  · simp [World.setCell, Array.getElem?_modify, hb]
  · rw [Array.getElem?_setIfInBounds]
    by_cases e : j = i
    · subst e
      rw [if_pos rfl, if_pos (by omega)]
      simp
    · rw [if_neg (fun h => e h.symm)]
      show c[j]? = some (if j = i then v else f j)
      rw [if_neg e]
      exact hc j hj
theorem Pre.setOther {w : World} {b : Nat} {t : TypeId} {n : Nat} {f : Nat → Value} (h : Pre w b t n f) {a : Addr} (ha : b ≠ a.block) (v : Value) : Pre (w.setCell a v) b t n f := h.of_block (Deep.blk_setCell_other _ _ _ _ ha)
/-- A whole row. -/
theorem preOf {w : World} {b : Nat} {t : TypeId} {n : Nat} {f : Nat → Value} (h : w.rowIs b t n f) : Pre w b t n f := by
  obtain ⟨c, hb, hn, hc⟩ := h
  exact ⟨c, hb, by omega, hc⟩

/-- The four cells of an order. -/
def ordCell (x : Ord) (ad : Option Addr) (c : Nat) : Nat → Value
  | 0 => .string x.holder
  | 1 => .int .i64 x.kind
  | 2 => .slice ad x.secs.length c
  | _ => .int .i64 x.state

def ordCells (X : Nat → Ord) (sa : Nat → Option Addr) (sc : Nat → Nat) (j : Nat) : Value := ordCell (X (j / 4)) (sa (j / 4)) (sc (j / 4)) (j % 4)

/-- n orders in block G, each one's sections in a block of its own. -/
structure OwnOrds (w : World) (lo : Nat) (ad : Option Addr) (n : Nat) (X : Nat → Ord) (G : Nat) (gs : Nat → Nat) (sa : Nat → Option Addr) (sc : Nat → Nat) : Prop where
  head : 0 < n → ad = some ⟨G, 0, none⟩
  row : 0 < n → Pre w G 39 (n * 4) (ordCells X sa sc)
  low : 0 < n → lo ≤ G
  sec : ∀ i, i < n → 0 < (X i).secs.length → sa i = some ⟨gs i, 0, none⟩ ∧ Pre w (gs i) 3 (X i).secs.length (iV (X i).secs)
  slow : ∀ i, i < n → 0 < (X i).secs.length → lo ≤ gs i ∧ gs i ≠ G
  inj : ∀ i j, i < n → j < n → 0 < (X i).secs.length → 0 < (X j).secs.length → gs i = gs j → i = j

theorem OwnOrds.ordAt {w : World} {lo : Nat} {ad : Option Addr} {n : Nat} {X : Nat → Ord} {G : Nat} {gs : Nat → Nat} {sa : Nat → Option Addr} {sc : Nat → Nat} (h : OwnOrds w lo ad n X G gs sa sc) {i : Nat} (hi : i < n) :
    OrdAt w G (i * 4) (X i) (sa i) (sc i) := by
  have hr := h.row (by omega)
  have d : ∀ r, r < 4 → (i * 4 + r) / 4 = i ∧ (i * 4 + r) % 4 = r := fun r hr => by omega
  refine ⟨?_, ?_, ?_, ?_, ?_⟩
  · have := hr.cell (i := i * 4 + 0) (by omega)
    rw [Nat.add_zero] at this
    rw [this]; have this := d 0 (by omega); rw [Nat.add_zero] at this; simp only [ordCells]; rw [this.1, this.2]; rfl
  · have := hr.cell (i := i * 4 + 1) (by omega)
    rw [this]; simp only [ordCells]; rw [(d 1 (by omega)).1, (d 1 (by omega)).2]; rfl
  · have := hr.cell (i := i * 4 + 2) (by omega)
    rw [this]; simp only [ordCells]; rw [(d 2 (by omega)).1, (d 2 (by omega)).2]; rfl
  · have := hr.cell (i := i * 4 + 3) (by omega)
    rw [this]; simp only [ordCells]; rw [(d 3 (by omega)).1, (d 3 (by omega)).2]; rfl
  · refine ⟨gs i, 0, fun hp => (h.sec i hi hp).1, fun j hj => ?_⟩
    have := (h.sec i hi (by omega)).2.cell hj
    rw [Nat.zero_add]; exact this

theorem OwnOrds.below {w w' : World} {lo : Nat} {ad : Option Addr} {n : Nat} {X : Nat → Ord} {G : Nat} {gs : Nat → Nat} {sa : Nat → Option Addr} {sc : Nat → Nat} (h : OwnOrds w lo ad n X G gs sa sc) (hb : Below w.heap.size w w') : OwnOrds w' lo ad n X G gs sa sc :=
  ⟨h.head, fun hp => (h.row hp).of_block (hb.block _ (h.row hp).lt), h.low, fun i hi hp => ⟨(h.sec i hi hp).1, (h.sec i hi hp).2.of_block (hb.block _ (h.sec i hi hp).2.lt)⟩, h.slow, h.inj⟩

/-- A slice of bools, or nothing, in a block of its own. -/
structure OwnBools (w : World) (lo : Nat) (ad : Option Addr) (n : Nat) (V : Nat → Bool) (G : Nat) : Prop where
  head : 0 < n → ad = some ⟨G, 0, none⟩
  row : 0 < n → Pre w G 4 n (fun i => .bool (V i))
  low : 0 < n → lo ≤ G

theorem OwnBools.cells {w : World} {lo : Nat} {ad : Option Addr} {n : Nat} {V : Nat → Bool} {G : Nat} (h : OwnBools w lo ad n V G) : Cells w ad n (fun i => .bool (V i)) :=
  ⟨G, 0, h.head, fun i hi => by rw [Nat.zero_add]; exact (h.row (by omega)).cell hi⟩

theorem OwnBools.below {w w' : World} {lo : Nat} {ad : Option Addr} {n : Nat} {V : Nat → Bool} {G : Nat} (h : OwnBools w lo ad n V G) (hb : Below w.heap.size w w') : OwnBools w' lo ad n V G :=
  ⟨h.head, fun hp => (h.row hp).of_block (hb.block _ (h.row hp).lt), h.low⟩

theorem OwnOrds.storeLow {w : World} {lo : Nat} {ad : Option Addr} {n : Nat} {X : Nat → Ord} {G : Nat} {gs : Nat → Nat} {sa : Nat → Option Addr} {sc : Nat → Nat} (h : OwnOrds w lo ad n X G gs sa sc) {a : Addr} (ha : a.block < lo) (u : Value) : OwnOrds (w.setCell a u) lo ad n X G gs sa sc :=
  ⟨h.head, fun hp => (h.row hp).setOther (by have := h.low hp; omega) _, h.low, fun i hi hp => ⟨(h.sec i hi hp).1, (h.sec i hi hp).2.setOther (by have := (h.slow i hi hp).1; omega) _⟩, h.slow, h.inj⟩

theorem OwnOrds.mono {w : World} {lo lo' : Nat} {ad : Option Addr} {n : Nat} {X : Nat → Ord} {G : Nat} {gs : Nat → Nat} {sa : Nat → Option Addr} {sc : Nat → Nat} (h : OwnOrds w lo ad n X G gs sa sc) (hl : lo' ≤ lo) : OwnOrds w lo' ad n X G gs sa sc :=
  ⟨h.head, h.row, fun hp => Nat.le_trans hl (h.low hp), h.sec, fun i hi hp => ⟨Nat.le_trans hl (h.slow i hi hp).1, (h.slow i hi hp).2⟩, h.inj⟩

theorem OwnBools.storeLow {w : World} {lo : Nat} {ad : Option Addr} {n : Nat} {V : Nat → Bool} {G : Nat} (h : OwnBools w lo ad n V G) {a : Addr} (ha : a.block < lo) (u : Value) : OwnBools (w.setCell a u) lo ad n V G :=
  ⟨h.head, fun hp => (h.row hp).setOther (by have := h.low hp; omega) _, h.low⟩

theorem OwnBools.mono {w : World} {lo lo' : Nat} {ad : Option Addr} {n : Nat} {V : Nat → Bool} {G : Nat} (h : OwnBools w lo ad n V G) (hl : lo' ≤ lo) : OwnBools w lo' ad n V G :=
  ⟨h.head, h.row, fun hp => Nat.le_trans hl (h.low hp)⟩

theorem OwnOrds.lt {w : World} {lo : Nat} {ad : Option Addr} {n : Nat} {X : Nat → Ord} {G : Nat} {gs : Nat → Nat} {sa : Nat → Option Addr} {sc : Nat → Nat} (h : OwnOrds w lo ad n X G gs sa sc) : (0 < n → G < w.heap.size) ∧ ∀ i, i < n → 0 < (X i).secs.length → gs i < w.heap.size :=
  ⟨fun hp => (h.row hp).lt, fun i hi hp => (h.sec i hi hp).2.lt⟩

/-- The blocks of a book that owns its memory. -/
structure Blk where
  G : Nat
  gs : Nat → Nat
  sa : Nat → Option Addr
  sc : Nat → Nat
  L : Nat
  C : Nat

/-- A book by value that owns its memory from block 'lo' on, no two lists in one block. -/
structure OwnBook (w : World) (lo : Nat) (v : Value) (B : Bk) (K : Blk) : Prop where
  shape : ∃ ao co al cl ac cc, v = .agg #[.int .i64 B.n, .slice ao B.orders.length co, .slice al B.locked.length cl, .slice ac B.occ.length cc] ∧
    OwnOrds w lo ao B.orders.length (fun i => B.orders.getD i Ord.zero) K.G K.gs K.sa K.sc ∧ OwnBools w lo al B.locked.length (fun i => B.locked.getD i false) K.L ∧ OwnBools w lo ac B.occ.length (fun i => B.occ.getD i false) K.C
  lg : 0 < B.orders.length → 0 < B.locked.length → K.L ≠ K.G
  cg : 0 < B.orders.length → 0 < B.occ.length → K.C ≠ K.G
  lc : 0 < B.locked.length → 0 < B.occ.length → K.L ≠ K.C
  ls : 0 < B.locked.length → ∀ i, i < B.orders.length → 0 < (B.orders.getD i Ord.zero).secs.length → K.gs i ≠ K.L
  cs : 0 < B.occ.length → ∀ i, i < B.orders.length → 0 < (B.orders.getD i Ord.zero).secs.length → K.gs i ≠ K.C

theorem OwnOrds.ordersAt {w : World} {lo : Nat} {ad : Option Addr} {xs : List Ord} {G : Nat} {gs : Nat → Nat} {sa : Nat → Option Addr} {sc : Nat → Nat} (h : OwnOrds w lo ad xs.length (fun i => xs.getD i Ord.zero) G gs sa sc) : OrdersAt w ad xs :=
  ⟨G, 0, h.head, fun i hi => ⟨sa i, sc i, by rw [Nat.zero_add]; exact h.ordAt hi⟩⟩

theorem OwnBook.bookAt {w : World} {lo : Nat} {v : Value} {B : Bk} {K : Blk} (h : OwnBook w lo v B K) : BookAt w v B := by
  obtain ⟨ao, co, al, cl, ac, cc, e, h1, h2, h3⟩ := h.shape
  exact ⟨ao, co, al, cl, ac, cc, e, h1.ordersAt, h2.cells, h3.cells⟩

theorem OwnBook.below {w w' : World} {lo : Nat} {v : Value} {B : Bk} {K : Blk} (h : OwnBook w lo v B K) (hb : Below w.heap.size w w') : OwnBook w' lo v B K := by
  obtain ⟨⟨ao, co, al, cl, ac, cc, e, h1, h2, h3⟩, q1, q2, q3, q4, q5⟩ := h
  exact ⟨⟨ao, co, al, cl, ac, cc, e, h1.below hb, h2.below hb, h3.below hb⟩, q1, q2, q3, q4, q5⟩

/-! ### Orders laid one by one -/

/-- What lies in block G when k of n orders are laid: z is what was there. -/
def laidCells (X : Nat → Ord) (sa : Nat → Option Addr) (sc : Nat → Nat) (z : Nat → Value) (k : Nat) (j : Nat) : Value := if j / 4 < k then ordCells X sa sc j else z j

theorem laid_step {w : World} {G n k : Nat} {t : TypeId} {X : Nat → Ord} {sa : Nat → Option Addr} {sc : Nat → Nat} {z : Nat → Value} (h : w.rowIs G t (n * 4) (laidCells X sa sc z k)) (ad : Option Addr) (c : Nat) :
    ((((w.setCell ⟨G, k * 4, none⟩ (.string (X k).holder)).setCell ⟨G, k * 4 + 1, none⟩ (.int .i64 (X k).kind)).setCell ⟨G, k * 4 + 2, none⟩ (.slice ad (X k).secs.length c)).setCell ⟨G, k * 4 + 3, none⟩ (.int .i64 (X k).state)).rowIs G t (n * 4)
      (laidCells X (fun i => if i = k then ad else sa i) (fun i => if i = k then c else sc i) z (k + 1)) := by
  refine ((((h.set _ _).set _ _).set _ _).set _ _).congr (fun j _ => ?_)
  have hd : j = 4 * (j / 4) + j % 4 := (Nat.div_add_mod j 4).symm
  have hm : j % 4 < 4 := Nat.mod_lt _ (by omega)
  unfold laidCells ordCells
  by_cases e : j / 4 = k
  · rw [if_pos (show j / 4 < k + 1 by omega)]
    simp only [e, if_true]
    rcases (show j % 4 = 0 ∨ j % 4 = 1 ∨ j % 4 = 2 ∨ j % 4 = 3 by omega) with q | q | q | q
    · rw [if_neg (by omega), if_neg (by omega), if_neg (by omega), if_pos (by omega), q]; rfl
    · rw [if_neg (by omega), if_neg (by omega), if_pos (by omega), q]; rfl
    · rw [if_neg (by omega), if_pos (by omega), q]; rfl
    · rw [if_pos (by omega), q]; rfl
  · rw [if_neg (by omega), if_neg (by omega), if_neg (by omega), if_neg (by omega)]
    by_cases hl : j / 4 < k
    · rw [if_pos hl, if_pos (by omega)]; simp only [e, if_false]
    · rw [if_neg hl, if_neg (by omega)]

end Go.Proofs.YtbgmgfnhmlpehaaDoor
