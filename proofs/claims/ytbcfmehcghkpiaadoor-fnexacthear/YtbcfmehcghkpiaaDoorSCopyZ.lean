import Derived.Test.YtbcfmehcghkpiaaDoorOwnUpZ
import Derived.Test.YtbcfmehcghkpiaaDoorEvTo
import Derived.Test.YtbcfmehcghkpiaaDoorEvZ
import Derived.Test.YtbcfmehcghkpiaaDoorBaseZ
import Derived.Deep.DeepCutAuto
import Derived.Deep.RegionHeld3
/-
  The contract of spec.l2copy: a book of its own. Mine, by template (wip/gen.py).
-/
namespace Go.Proofs.YtbcfmehcghkpiaaDoor
open Go.RowKit

/-- A goal at which the walk stands still. -/
def Stand (p : Prop) : Prop := p
theorem stand {p : Prop} (h : Stand p) : p := h
theorem Stand.go {p : Prop} (h : p) : Stand p := h

theorem owns_mono {w : World} {lo lo' : Nat} {e : TypeId} {s : Nat} {v : Value} {n : Nat} {xs : List Value} (h : w.ownsRow lo e s v n xs) (hl : lo' ≤ lo) : w.ownsRow lo' e s v n xs := by
  obtain ⟨h1, h2⟩ := h
  refine ⟨h1, ?_⟩
  rcases h2 with h2 | ⟨g, cap, cur, hv, hg, r⟩
  · exact Or.inl h2
  · exact Or.inr ⟨g, cap, cur, hv, Nat.le_trans hl hg, r⟩

theorem RowOrds.mono {w : World} {lo lo' : Nat} {u : Value} {n : Nat} {X : Nat → Ord} {gs : Nat → Nat} {sa : Nat → Option Addr} {sc : Nat → Nat} (h : RowOrds w lo u n X gs sa sc) (hl : lo' ≤ lo) : RowOrds w lo' u n X gs sa sc :=
  ⟨owns_mono h.row hl, h.nil, fun i hi hp => ⟨(h.sec i hi hp).1, (h.sec i hi hp).2.1, Nat.le_trans hl (h.sec i hi hp).2.2.1, (h.sec i hi hp).2.2.2⟩, h.inj⟩

/-- A book that owns its memory, its orders in a slice that append has made. -/
structure RowBook (w : World) (lo : Nat) (v : Value) (B : Bk) (K : Blk) : Prop where
  own : OwnBook w lo v B K
  row : ∃ u x1 x2, v = .agg #[.int .i64 B.n, u, x1, x2] ∧ RowOrds w lo u B.orders.length (bX B) K.gs K.sa K.sc ∧ (0 < B.orders.length → u.ownBlock = some K.G)

theorem RowBook.below {w w' : World} {lo : Nat} {v : Value} {B : Bk} {K : Blk} (h : RowBook w lo v B K) (hb : Below w.heap.size w w') : RowBook w' lo v B K := by
  obtain ⟨h1, u, x1, x2, e, h2, h3⟩ := h
  exact ⟨h1.below hb, u, x1, x2, e, h2.below hb, h3⟩

theorem rowBook_mk {w : World} {lo H : Nat} {B : Bk} {u : Value} {al ac : Option Addr} {cl cc GL GC : Nat} {gs : Nat → Nat} {sa : Nat → Option Addr} {sc : Nat → Nat}
    (h1 : RowOrds w H u B.orders.length (bX B) gs sa sc) (hlo : lo ≤ H) (h2 : OwnBools w lo al B.locked.length (fun i => B.locked.getD i false) GL) (h3 : OwnBools w lo ac B.occ.length (fun i => B.occ.getD i false) GC)
    (hL : 0 < B.locked.length → GL < H) (hC : 0 < B.occ.length → GC < H) (hLC : 0 < B.locked.length → 0 < B.occ.length → GL ≠ GC) :
    ∃ K, RowBook w lo (.agg #[.int .i64 B.n, u, .slice al B.locked.length cl, .slice ac B.occ.length cc]) B K := by
  obtain ⟨ad, c, G, rfl, hown, hk⟩ := h1.own
  have hG : 0 < B.orders.length → H ≤ G := fun p => (owns_lt h1.row (hk p)).1
  refine ⟨⟨G, gs, sa, sc, GL, GC⟩, ⟨⟨ad, c, al, cl, ac, cc, rfl, hown.mono hlo, h2, h3⟩, fun a b => ?_, fun a b => ?_, hLC, fun a i hi hp => ?_, fun a i hi hp => ?_⟩, _, _, _, rfl, h1.mono hlo, hk⟩
  · have := hG a; have := hL b; show GL ≠ G; omega
  · have := hG a; have := hC b; show GC ≠ G; omega
  · have := hL a; have := (hown.slow i hi hp).1; show gs i ≠ GL; omega
  · have := hC a; have := (hown.slow i hi hp).1; show gs i ≠ GC; omega

theorem RowOrds.setLow {w : World} {lo : Nat} {u : Value} {n : Nat} {X : Nat → Ord} {gs : Nat → Nat} {sa : Nat → Option Addr} {sc : Nat → Nat} (h : RowOrds w lo u n X gs sa sc) (b o : Nat) (hb : b < lo) (x : Value) : RowOrds (w.setCell ⟨b, o, none⟩ x) lo u n X gs sa sc :=
  ⟨owns_of_block h.row (fun g hg => Deep.blk_setCell_other _ _ _ _ (by have := (owns_lt h.row hg).1; show g ≠ b; omega)), h.nil, fun i hi hp => ⟨(h.sec i hi hp).1, (h.sec i hi hp).2.1.setOther (by have := (h.sec i hi hp).2.2.1; show gs i ≠ b; omega) _, (h.sec i hi hp).2.2⟩, h.inj⟩

theorem add0 (b j : Nat) : (⟨b, 0, none⟩ : Addr).add j = ⟨b, j, none⟩ := by
  unfold Addr.add
  split
  · next h => rw [h]
  · simp

theorem OwnBools.ofBlock {w w' : World} {lo : Nat} {ad : Option Addr} {n : Nat} {V : Nat → Bool} {G : Nat} (h : OwnBools w lo ad n V G) (e : 0 < n → w'.heap[G]? = w.heap[G]?) : OwnBools w' lo ad n V G :=
  ⟨h.head, fun hp => (h.row hp).of_block (e hp), h.low⟩

theorem put1_same {α : Type} (f : Nat → α) (n : Nat) : put1 f n (f n) = f := by
  funext i
  unfold put1
  split
  · next h => rw [h]
  · rfl

theorem cell_of_box {w : World} {p i : Nat} {c : Array Value} {t : TypeId} {u : Value} (h : w.heap[p]? = some (.cells c t (0, 0))) (hu : c[i]? = some u) : w.cell? ⟨p, i, none⟩ = some u := by
  simp [World.cell?, h, hu]
theorem frozen_of_box {w : World} {p i : Nat} {c : Array Value} {t : TypeId} (h : w.heap[p]? = some (.cells c t (0, 0))) : w.frozen? ⟨p, i, none⟩ = false := by
  simp [World.frozen?, h]
theorem box_set {w : World} {p i : Nat} {c : Array Value} {t : TypeId} (h : w.heap[p]? = some (.cells c t (0, 0))) (u : Value) : (w.setCell ⟨p, i, none⟩ u).heap[p]? = some (.cells (c.setIfInBounds i u) t (0, 0)) := by
  simp [World.setCell, Array.getElem?_modify, h]
theorem box_other {w : World} {p q i : Nat} (h : q ≠ p) (u : Value) : (w.setCell ⟨p, i, none⟩ u).heap[q]? = w.heap[q]? := Deep.blk_setCell_other _ _ _ _ h

end Go.Proofs.YtbcfmehcghkpiaaDoor

/-
  The contracts of spec.Open, impl.Open. Mine, by template (wip/gen.py).
-/
namespace Go.Proofs.YtbcfmehcghkpiaaDoor
open Go.RowKit

/-- The open ones among the first k. -/
def openTo (X : Nat → Ord) : Nat → List Int
  | 0 => []
  | k + 1 => openTo X k ++ (if (X k).state = 2 ∨ (X k).state = 3 then [(k : Int)] else [])

theorem openTo_yes {X : Nat → Ord} {k : Nat} (h : OpenP (X k).state) : openTo X (k + 1) = openTo X k ++ [(k : Int)] := by
  show openTo X k ++ (if (X k).state = 2 ∨ (X k).state = 3 then [(k : Int)] else []) = _
  rw [if_pos (show (X k).state = 2 ∨ (X k).state = 3 from h)]
theorem openTo_no {X : Nat → Ord} {k : Nat} (h : ¬ OpenP (X k).state) : openTo X (k + 1) = openTo X k := by
  show openTo X k ++ (if (X k).state = 2 ∨ (X k).state = 3 then [(k : Int)] else []) = _
  rw [if_neg (show ¬ ((X k).state = 2 ∨ (X k).state = 3) from h), List.append_nil]
theorem openTo_le (X : Nat → Ord) (k : Nat) : (openTo X k).length ≤ k := by
  induction k with
  | zero => simp [openTo]
  | succ k ih =>
    by_cases h : OpenP (X k).state
    · rw [openTo_yes h]; simp; omega
    · rw [openTo_no h]; omega

def OpenIs (B : Bk) (l : List Int) : Prop := (¬ Right B ∧ l = []) ∨ (Right B ∧ l = openTo (bX B) B.orders.length)

theorem OpenIs.det {B : Bk} {l m : List Int} (h : OpenIs B l) (k : OpenIs B m) : l = m := by
  rcases h with ⟨h1, h2⟩ | ⟨h1, h2⟩ <;> rcases k with ⟨k1, k2⟩ | ⟨k1, k2⟩
  · rw [h2, k2]
  · exact absurd k1 h1
  · exact absurd h1 k1
  · rw [h2, k2]

theorem OpenIs.le {B : Bk} {l : List Int} (h : OpenIs B l) : l.length ≤ B.orders.length := by
  rcases h with ⟨_, rfl⟩ | ⟨_, rfl⟩
  · simp
  · exact openTo_le _ _

/-- A slice of ints that owns its memory from lo on. -/
def OwnL (w : World) (lo : Nat) (v : Value) (l : List Int) (g : Nat) : Prop := ∃ ad cap, v = .slice ad l.length cap ∧ (0 < l.length → ad = some ⟨g, 0, none⟩ ∧ lo ≤ g ∧ Pre w g 3 l.length (iV l))

theorem OwnL.below {w w' : World} {lo : Nat} {v : Value} {l : List Int} {g : Nat} (h : OwnL w lo v l g) (hb : Below w.heap.size w w') : OwnL w' lo v l g := by
  obtain ⟨ad, cap, h1, h2⟩ := h
  exact ⟨ad, cap, h1, fun hp => ⟨(h2 hp).1, (h2 hp).2.1, (h2 hp).2.2.of_block (hb.block _ (h2 hp).2.2.lt)⟩⟩

theorem pre_cells {w : World} {ad : Option Addr} {n g : Nat} {f : Nat → Value} (h : 0 < n → ad = some ⟨g, 0, none⟩ ∧ Pre w g 3 n f) : Cells w ad n f :=
  ⟨g, 0, fun hp => (h hp).1, fun i hi => by rw [Nat.zero_add]; exact (h (by omega)).2.cell hi⟩

theorem ownL_of {w : World} {lo : Nat} {v : Value} {l : List Int} (h : w.ownsRow lo 3 1 v l.length (l.map (Value.int .i64))) : ∃ g, OwnL w lo v l g := by
  obtain ⟨_, h2⟩ := h
  rcases h2 with ⟨rfl, h0⟩ | ⟨g, cap, cur, rfl, h1, h3, h4, _, h5, h6⟩
  · have : l = [] := List.length_eq_zero_iff.1 h0
    subst this
    exact ⟨0, none, 0, rfl, fun h => absurd h (by simp)⟩
  · refine ⟨g, some ⟨g, 0, none⟩, cap, rfl, fun _ => ⟨rfl, h1, cur, h3, by omega, fun i hi => ?_⟩⟩
    have e : (cur.toList.take (l.length * 1))[i]? = (l.map (Value.int .i64))[i]? := by rw [h6]
    rw [List.getElem?_take, if_pos (by omega)] at e
    rw [← Array.getElem?_toList, e]
    simp [iV, hi]

theorem ownsRow_below {w w' : World} {lo : Nat} {e : TypeId} {v : Value} {n : Nat} {xs : List Value} (h : w.ownsRow lo e 1 v n xs) (hb : Below w.heap.size w w') : w'.ownsRow lo e 1 v n xs := by
  obtain ⟨h1, h2⟩ := h
  refine ⟨h1, ?_⟩
  rcases h2 with h2 | ⟨g, cap, cur, hv, hg, hh, r⟩
  · exact Or.inl h2
  · have hlt : g < w.heap.size := (Array.getElem?_eq_some_iff.1 hh).1
    exact Or.inr ⟨g, cap, cur, hv, hg, (hb.block _ hlt).trans hh, r⟩

theorem ownBlock_low {w : World} {lo : Nat} {e : TypeId} {v : Value} {n : Nat} {xs : List Value} (h : w.ownsRow lo e 1 v n xs) {j : Nat} (hj : v.ownBlock = some j) : lo ≤ j := by
  obtain ⟨_, h2⟩ := h
  rcases h2 with ⟨rfl, _⟩ | ⟨g, cap, cur, rfl, hg, _⟩
  · simp [Value.ownBlock] at hj
  · simp [Value.ownBlock] at hj
    omega

/-- What Open answers. -/
def RetL (e : Ending) (w' : World) (lo : Nat) (B : Bk) : Prop := ∃ v l g, e = .returned v ∧ OpenIs B l ∧ OwnL w' lo v l g

end Go.Proofs.YtbcfmehcghkpiaaDoor

/-
  The contract of impl.copyBook: a book of its own. Mine, by template (wip/gen.py).
-/
namespace Go.Proofs.YtbcfmehcghkpiaaDoor
open Go.RowKit

theorem pre_other {w : World} {g : Nat} {t : TypeId} {n : Nat} {f : Nat → Value} (h : Pre w g t n f) (b o : Nat) (hb : g ≠ b) (u : Value) : Pre (w.setCell ⟨b, o, none⟩ u) g t n f := h.setOther hb u

theorem alloc_size (w : World) (o : Obj) : (w.alloc o).heap.size = w.heap.size + 1 := by simp

theorem bcell' {N : Nat} {W w1 : World} (hb : Below N W w1) : (∀ b o, b < N → w1.cell? ⟨b, o, none⟩ = W.cell? ⟨b, o, none⟩) ∧ (∀ b o, b < N → w1.frozen? ⟨b, o, none⟩ = W.frozen? ⟨b, o, none⟩) :=
  ⟨fun b o h => hb.cell (p := ⟨b, o, none⟩) h, fun b o h => hb.frozen (p := ⟨b, o, none⟩) h⟩

theorem wp_append_row {P : Program} {w : World} {o : Oper} {a : Act} {K : Act → World → Prop} {Q : Exit → Act → World → Prop} (s x : Operand) (t : TypeId)
    (ho : o.op = .call { callee := .builtin .append, args := #[s, x], argTypes := #[t, t] })
    (base : Nat) (e : TypeId) (i : TypeInfo) (z : Value) (size bytes : Nat) (ht : P.underlying t = some (.slice e)) (hi : P.info? e = some i) (hz : i.zero = some z)
    (hsize : i.size = size) (hby : i.bytes = bytes) (hzs : z.cells.size = size) (hsz : 0 < size)
    (v : Value) (n : Nat) (xs : List Value) (hs : a.eval s = v) (hown : w.ownsRow base e size v n xs)
    (ad : Addr) (m c : Nat) (news : List Value) (hx : a.eval x = .slice (some ad) m c) (hl : news.length = m * size) (hnews : ∀ j u, news[j]? = some u → w.cell? (ad.add j) = some u) (h1 : ∀ u ∈ news, u.oneCell' = true)
    (h63 : n + m ≤ maxLen) (hbytes : (n + m) * bytes ≤ 140737488355328) (hbase : base ≤ w.heap.size)
    (h : ∀ v' w', w'.ownsRow base e size v' (n + m) (xs ++ news) → w.grownBy w' v.ownBlock → (v' = .slice none 0 0 ↔ v = .slice none 0 0 ∧ m = 0) → (v'.ownBlock = v.ownBlock ∨ v'.ownBlock = some w.heap.size) → K (a.put o.dst v') w') : o.wp P a w K Q := by
  obtain ⟨v', w', hr, h2, h3, h4, h5⟩ := run_append_own_at (P := P) w base t o.type e i z size bytes ht hi hz hsize hby hzs hsz v n xs hown ad m c news hl hnews h1 h63 hbytes hbase
  unfold Oper.wp execOp
  simp only [ho, resolve, invoke, builtin, Sem.run_bind, Sem.run_pure, Result.andThen_ok, List.map_toArray, List.map_cons, List.map_nil, hs, hx, hr]
  exact h v' w' h2 h3 h4 h5

/-- Behind the first statement: the new book's variable, and its two lists. -/
structure Start (w W2 wc : World) (B : Bk) (P : Nat) (adL : Option Addr) (cL GL : Nat) (adC : Option Addr) (cC GC : Nat) : Prop where
  box : wc.heap[P]? = some (.cells #[.int .i64 B.n, .slice none 0 0, .slice adL B.locked.length cL, .slice adC B.occ.length cC] 151 (0, 0))
  lo : w.heap.size + 2 ≤ P
  L : OwnBools wc (w.heap.size + 2) adL B.locked.length (fun i => B.locked.getD i false) GL
  C : OwnBools wc (w.heap.size + 2) adC B.occ.length (fun i => B.occ.getD i false) GC
  lp : 0 < B.locked.length → GL ≠ P
  cp : 0 < B.occ.length → GC ≠ P
  lc : 0 < B.locked.length → 0 < B.occ.length → GL ≠ GC
  bel : Below (w.heap.size + 2) W2 wc

theorem box_put4 {w : World} {P : Nat} {z0 z1 z2 z3 a b c d : Value} {t : TypeId} (h : w.heap[P]? = some (.cells #[z0, z1, z2, z3] t (0, 0))) : ((((w.setCell ⟨P, 0, none⟩ a).setCell ⟨P, 1, none⟩ b).setCell ⟨P, 2, none⟩ c).setCell ⟨P, 3, none⟩ d).heap[P]? = some (.cells #[a, b, c, d] t (0, 0)) :=
  (box_set (box_set (box_set (box_set h _) _) _) _).trans rfl

theorem start_put {w W2 w2 : World} {B : Bk} {P : Nat} {adL : Option Addr} {cL GL : Nat} {adC : Option Addr} {cC GC : Nat} {z0 z1 z2 z3 : Value} (y : w2.heap[P]? = some (.cells #[z0, z1, z2, z3] 151 (0, 0))) (lo : w.heap.size + 2 ≤ P)
    (L : OwnBools w2 (w.heap.size + 2) adL B.locked.length (fun i => B.locked.getD i false) GL) (C : OwnBools w2 (w.heap.size + 2) adC B.occ.length (fun i => B.occ.getD i false) GC)
    (lp : 0 < B.locked.length → GL ≠ P) (cp : 0 < B.occ.length → GC ≠ P) (lc : 0 < B.locked.length → 0 < B.occ.length → GL ≠ GC) (bel : Below (w.heap.size + 2) W2 w2) :
    Start w W2 ((((w2.setCell ⟨P, 0, none⟩ (.int .i64 B.n)).setCell ⟨P, 1, none⟩ (.slice none 0 0)).setCell ⟨P, 2, none⟩ (.slice adL B.locked.length cL)).setCell ⟨P, 3, none⟩ (.slice adC B.occ.length cC)) B P adL cL GL adC cC GC :=
  ⟨box_put4 y, lo, (((L.setOther (a := ⟨P, 0, none⟩) lp _).setOther (a := ⟨P, 1, none⟩) lp _).setOther (a := ⟨P, 2, none⟩) lp _).setOther (a := ⟨P, 3, none⟩) lp _, (((C.setOther (a := ⟨P, 0, none⟩) cp _).setOther (a := ⟨P, 1, none⟩) cp _).setOther (a := ⟨P, 2, none⟩) cp _).setOther (a := ⟨P, 3, none⟩) cp _, lp, cp, lc,
    below_set (below_set (below_set (below_set bel _ _ lo _) _ _ lo _) _ _ lo _) _ _ lo _⟩

theorem start_new {w W2 w1 w2 : World} {B : Bk} {adL : Option Addr} {cL GL : Nat} {adC : Option Addr} {cC GC : Nat} (hW : W2.heap.size = w.heap.size + 2)
    (HL : OwnBools w1 W2.drew.heap.size adL B.locked.length (fun i => B.locked.getD i false) GL ∧ Below W2.drew.heap.size W2.drew w1) (HC : OwnBools w2 w1.heap.size adC B.occ.length (fun i => B.occ.getD i false) GC ∧ Below w1.heap.size w1 w2) :
    Start w W2 (w2.alloc (.cells #[.int .i64 B.n, .slice none 0 0, .slice adL B.locked.length cL, .slice adC B.occ.length cC] 151)) B w2.heap.size adL cL GL adC cC GC := by
  have hd : W2.drew.heap.size = w.heap.size + 2 := hW
  rw [hd] at HL
  have z1 := HL.2.size
  have z2 := HC.2.size
  have b1 : Below (w.heap.size + 2) W2 w1 := (Below.refl _ _).drew.trans HL.2
  have hL1 : 0 < B.locked.length → GL < w1.heap.size := fun p => (HL.1.row p).lt
  have hC1 : 0 < B.occ.length → GC < w2.heap.size := fun p => (HC.1.row p).lt
  rw [hd] at z1
  refine ⟨Deep.blk_alloc_new _ _, by omega, (HL.1.below HC.2).below (below1 _ _), (HC.1.mono z1).below (below1 _ _), fun p => by have := hL1 p; omega, fun p => by have := hC1 p; omega, fun p q => by have := hL1 p; have := HC.1.low q; omega, (b1.trans (HC.2.mono z1)).alloc (by omega) _⟩

theorem start_mid {w W2 w1 w2 : World} {B : Bk} {adL : Option Addr} {cL GL : Nat} {adC : Option Addr} {cC GC : Nat} {z0 z1 z2 z3 : Value} (hW : W2.heap.size = w.heap.size + 2)
    (HL : OwnBools w1 W2.drew.heap.size adL B.locked.length (fun i => B.locked.getD i false) GL ∧ Below W2.drew.heap.size W2.drew w1) (HC : OwnBools w2 (w1.alloc (.cells #[z0, z1, z2, z3] 151)).heap.size adC B.occ.length (fun i => B.occ.getD i false) GC ∧ Below (w1.alloc (.cells #[z0, z1, z2, z3] 151)).heap.size (w1.alloc (.cells #[z0, z1, z2, z3] 151)) w2) :
    Start w W2 ((((w2.setCell ⟨w1.heap.size, 0, none⟩ (.int .i64 B.n)).setCell ⟨w1.heap.size, 1, none⟩ (.slice none 0 0)).setCell ⟨w1.heap.size, 2, none⟩ (.slice adL B.locked.length cL)).setCell ⟨w1.heap.size, 3, none⟩ (.slice adC B.occ.length cC)) B w1.heap.size adL cL GL adC cC GC := by
  have hd : W2.drew.heap.size = w.heap.size + 2 := hW
  have hd2 : (w1.alloc (.cells #[z0, z1, z2, z3] 151)).heap.size = w1.heap.size + 1 := by simp
  rw [hd] at HL
  have z1 := HL.2.size
  rw [hd] at z1
  have b1 : Below (w.heap.size + 2) W2 w1 := (Below.refl _ _).drew.trans HL.2
  have hL1 : 0 < B.locked.length → GL < w1.heap.size := fun p => (HL.1.row p).lt
  have hC1 : 0 < B.occ.length → w1.heap.size + 1 ≤ GC := fun p => by have := HC.1.low p; omega
  have b2 : Below w1.heap.size w1 w2 := (below1 _ _).trans (HC.2.mono (by omega))
  exact start_put ((HC.2.block _ (by omega)).trans (Deep.blk_alloc_new _ _)) z1 (HL.1.below b2) (HC.1.mono (by omega)) (fun p => by have := hL1 p; omega) (fun p => by have := hC1 p; omega) (fun p q => by have := hL1 p; have := hC1 q; omega) (b1.trans (b2.mono z1))

theorem start_old {w W2 w1 w2 : World} {B : Bk} {adL : Option Addr} {cL GL : Nat} {adC : Option Addr} {cC GC : Nat} {z0 z1 z2 z3 : Value} (hW : W2.heap.size = w.heap.size + 2)
    (HL : OwnBools w1 (W2.drew.alloc (.cells #[z0, z1, z2, z3] 151)).heap.size adL B.locked.length (fun i => B.locked.getD i false) GL ∧ Below (W2.drew.alloc (.cells #[z0, z1, z2, z3] 151)).heap.size (W2.drew.alloc (.cells #[z0, z1, z2, z3] 151)) w1) (HC : OwnBools w2 w1.heap.size adC B.occ.length (fun i => B.occ.getD i false) GC ∧ Below w1.heap.size w1 w2) :
    Start w W2 ((((w2.setCell ⟨w.heap.size + 1 + 1, 0, none⟩ (.int .i64 B.n)).setCell ⟨w.heap.size + 1 + 1, 1, none⟩ (.slice none 0 0)).setCell ⟨w.heap.size + 1 + 1, 2, none⟩ (.slice adL B.locked.length cL)).setCell ⟨w.heap.size + 1 + 1, 3, none⟩ (.slice adC B.occ.length cC)) B (w.heap.size + 1 + 1) adL cL GL adC cC GC := by
  have hd : W2.drew.heap.size = w.heap.size + 2 := hW
  have hd2 : (W2.drew.alloc (.cells #[z0, z1, z2, z3] 151)).heap.size = w.heap.size + 3 := by
    have t : (W2.drew.alloc (.cells #[z0, z1, z2, z3] 151)).heap.size = W2.drew.heap.size + 1 := by simp
    omega
  rw [hd2] at HL
  have zA := HL.2.size
  rw [hd2] at zA
  have b1 : Below (w.heap.size + 2) W2 w1 := ((Below.refl _ _).drew.alloc (by rw [hd]; exact Nat.le_refl _) _).trans (HL.2.mono (by omega))
  have hL1 : 0 < B.locked.length → GL < w1.heap.size := fun p => (HL.1.row p).lt
  have hL0 : 0 < B.locked.length → w.heap.size + 3 ≤ GL := fun p => HL.1.low p
  have hC1 : 0 < B.occ.length → w1.heap.size ≤ GC := fun p => HC.1.low p
  have y : w1.heap[w.heap.size + 1 + 1]? = some (.cells #[z0, z1, z2, z3] 151 (0, 0)) := (HL.2.block _ (by omega)).trans (by have := Deep.blk_alloc_new W2.drew (.cells #[z0, z1, z2, z3] 151); rw [hd] at this; exact this)
  exact start_put ((HC.2.block _ (by omega)).trans y) (by omega) ((HL.1.below HC.2).mono (by omega)) (HC.1.mono (by omega)) (fun p => by have := hL0 p; omega) (fun p => by have := hC1 p; omega) (fun p q => by have := hL1 p; have := hC1 q; omega) (b1.trans (HC.2.mono (by omega)))

end Go.Proofs.YtbcfmehcghkpiaaDoor
