/-
  The contract of spec.l2copy: a book of its own. Mine, by template (wip/gen.py).
-/
import Derived.Test.YtdlaekjofgbjcaaGreatDoorOwnUpZ
import Derived.Test.YtdlaekjofgbjcaaGreatDoorEvTo
namespace Go.Proofs.YtdlaekjofgbjcaaGreatDoor
open Go.RowKit
def Stand (p : Prop) : Prop := p
theorem stand {p : Prop} (h : Stand p) : p := h
theorem Stand.go {p : Prop} (h : p) : Stand p := h
theorem owns_mono {w : World} {lo lo' : Nat} {e : TypeId} {s : Nat} {v : Value} {n : Nat} {xs : List Value} (h : w.ownsRow lo e s v n xs) (hl : lo' ≤ lo) : w.ownsRow lo' e s v n xs := by
  obtain ⟨h1, h2⟩ := h
  refine ⟨h1, ?_⟩
  rcases h2 with h2 | ⟨g, cap, cur, hv, hg, r⟩
  · exact Or.inl h2
  · exact Or.inr ⟨g, cap, cur, hv, Nat.le_trans hl hg, r⟩
theorem RowOrds.mono {w : World} {lo lo' : Nat} {u : Value} {n : Nat} {X : Nat → Ord} {gs : Nat → Nat} {sa : Nat → Option Addr} {sc : Nat → Nat} (h : RowOrds w lo u n X gs sa sc) (hl : lo' ≤ lo) : RowOrds w lo' u n X gs sa sc :=
  ⟨owns_mono h.row hl, h.nil, fun i hi hp => ⟨(h.sec i hi hp).1, (h.sec i hi hp).2.1, Nat.le_trans hl (h.sec i hi hp).2.2.1, (h.sec i hi hp).2.2.2⟩, h.inj⟩
structure RowBook (w : World) (lo : Nat) (v : Value) (B : Bk) (K : Blk) : Prop where
  own : OwnBook w lo v B K
  row : ∃ u x1 x2, v = .agg #[.int .i64 B.n, u, x1, x2] ∧ RowOrds w lo u B.orders.length (bX B) K.gs K.sa K.sc ∧ (0 < B.orders.length → u.ownBlock = some K.G)
theorem RowBook.below {w w' : World} {lo : Nat} {v : Value} {B : Bk} {K : Blk} (h : RowBook w lo v B K) (hb : Below w.heap.size w w') : RowBook w' lo v B K := by
  obtain ⟨h1, u, x1, x2, e, h2, h3⟩ := h
  exact ⟨h1.below hb, u, x1, x2, e, h2.below hb, h3⟩
theorem rowBook_mk {w : World} {lo H : Nat} {B : Bk} {u : Value} {al ac : Option Addr} {cl cc GL GC : Nat} {gs : Nat → Nat} {sa : Nat → Option Addr} {sc : Nat → Nat}
    (h1 : RowOrds w H u B.orders.length (bX B) gs sa sc) (hlo : lo ≤ H) (h2 : OwnBools w lo al B.locked.length (fun i => B.locked.getD i false) GL) (h3 : OwnBools w lo ac B.occ.length (fun i => B.occ.getD i false) GC)
    (hL : 0 < B.locked.length → GL < H) (hC : 0 < B.occ.length → GC < H) (hLC : 0 < B.locked.length → 0 < B.occ.length → GL ≠ GC) :
    ∃ K, RowBook w lo (.agg #[.int .i64 B.n, u, .slice al B.locked.length cl, .slice ac B.occ.length cc]) B K := by
  obtain ⟨ad, c, G, rfl, hown, hk⟩ := h1.own
  have hG : 0 < B.orders.length → H ≤ G := fun p => (owns_lt h1.row (hk p)).1
  refine ⟨⟨G, gs, sa, sc, GL, GC⟩, ⟨⟨ad, c, al, cl, ac, cc, rfl, hown.mono hlo, h2, h3⟩, fun a b => ?_, fun a b => ?_, hLC, fun a i hi hp => ?_, fun a i hi hp => ?_⟩, _, _, _, rfl, h1.mono hlo, hk⟩
  · have := hG a; have := hL b; show GL ≠ G; omega
  · have := hG a; have := hC b; show GC ≠ G; omega
  · have := hL a; have := (hown.slow i hi hp).1; show gs i ≠ GL; omega
  · have := hC a; have := (hown.slow i hi hp).1; show gs i ≠ GC; omega
theorem RowOrds.setLow {w : World} {lo : Nat} {u : Value} {n : Nat} {X : Nat → Ord} {gs : Nat → Nat} {sa : Nat → Option Addr} {sc : Nat → Nat} (h : RowOrds w lo u n X gs sa sc) (b o : Nat) (hb : b < lo) (x : Value) : RowOrds (w.setCell ⟨b, o, none⟩ x) lo u n X gs sa sc :=
  ⟨owns_of_block h.row (fun g hg => Deep.blk_setCell_other _ _ _ _ (by have := (owns_lt h.row hg).1; show g ≠ b; omega)), h.nil, fun i hi hp => ⟨(h.sec i hi hp).1, (h.sec i hi hp).2.1.setOther (by have := (h.sec i hi hp).2.2.1; show gs i ≠ b; omega) _, (h.sec i hi hp).2.2⟩, h.inj⟩
theorem add0 (b j : Nat) : (⟨b, 0, none⟩ : Addr).add j = ⟨b, j, none⟩ := by
  unfold Addr.add
  split
  · next h => rw [h]
  · simp
theorem OwnBools.ofBlock {w w' : World} {lo : Nat} {ad : Option Addr} {n : Nat} {V : Nat → Bool} {G : Nat} (h : OwnBools w lo ad n V G) (e : 0 < n → w'.heap[G]? = w.heap[G]?) : OwnBools w' lo ad n V G :=
  ⟨h.head, fun hp => (h.row hp).of_block (e hp), h.low⟩
theorem put1_same {α : Type} (f : Nat → α) (n : Nat) : put1 f n (f n) = f := by
  funext i
  unfold put1
  split
  · next h => rw [h]
  · rfl
theorem cell_of_box {w : World} {p i : Nat} {c : Array Value} {t : TypeId} {u : Value} (h : w.heap[p]? = some (.cells c t (0, 0))) (hu : c[i]? = some u) : w.cell? ⟨p, i, none⟩ = some u := by
  simp [World.cell?, h, hu]
theorem frozen_of_box {w : World} {p i : Nat} {c : Array Value} {t : TypeId} (h : w.heap[p]? = some (.cells c t (0, 0))) : w.frozen? ⟨p, i, none⟩ = false := by
  simp [World.frozen?, h]
theorem box_set {w : World} {p i : Nat} {c : Array Value} {t : TypeId} (h : w.heap[p]? = some (.cells c t (0, 0))) (u : Value) : (w.setCell ⟨p, i, none⟩ u).heap[p]? = some (.cells (c.setIfInBounds i u) t (0, 0)) := by
  simp [World.setCell, Array.getElem?_modify, h]
theorem box_other {w : World} {p q i : Nat} (h : q ≠ p) (u : Value) : (w.setCell ⟨p, i, none⟩ u).heap[q]? = w.heap[q]? := Deep.blk_setCell_other _ _ _ _ h
set_option maxHeartbeats 8000000 in
theorem l2copy_any (v : Value) (B : Bk) (w : World) (ho : B.orders.length ≤ 1048576) (hs : ∀ i, i < B.orders.length → (bX B i).secs.length ≤ 1048576) (hl : B.locked.length ≤ 1048576) (hc : B.occ.length ≤ 1048576) (G : BookAt w v B) :
    Calls Tryz.prog 23 #[v] w fun e w' => ∃ v', e = .returned v' ∧ (∃ K, RowBook w' w.heap.size v' B K) ∧ Below w.heap.size w w' := by
  obtain ⟨ao, co, al, cl, ac, cc, rfl, ⟨b, o, hd, g⟩, CL, CC⟩ := G
  have g' : ∀ i, i < B.orders.length → ∃ sa sc, OrdAt w b (o + i * 4) (bX B i) sa sc := g
  have HC : Hid (Cells w al B.locked.length (bV B.locked) ∧ Cells w ac B.occ.length (bV B.occ)) := ⟨CL, CC⟩
  clear g CL CC
  obtain ⟨ib, hib, zb0, zb1, zb2⟩ := info_parts Tryz.infoBool
  obtain ⟨ii, hii, zi0, zi1, zi2⟩ := info_parts Tryz.infoInt
  obtain ⟨io, hio, zo0, zo1, zo2⟩ := info_parts Tryz.infoOrder
  have B3 : Below w.heap.size w (((w.alloc (.cells #[.int .i64 B.n, .slice ao B.orders.length co, .slice al B.locked.length cl, .slice ac B.occ.length cc] 37)).alloc (.cells #[.int .i64 0, .slice none 0 0, .slice none 0 0, .slice none 0 0] 37)).alloc (.cells #[.int .i64 B.n, .slice none 0 0, .slice none 0 0, .slice none 0 0] 37)) := below3 _ _ _ _
  go_enter Tryz.func23, Tryz.ntmps23
  have sz3 : (((w.alloc (.cells #[.int .i64 B.n, .slice ao B.orders.length co, .slice al B.locked.length cl, .slice ac B.occ.length cc] 37)).alloc (.cells #[.int .i64 0, .slice none 0 0, .slice none 0 0, .slice none 0 0] 37)).alloc (.cells #[.int .i64 B.n, .slice none 0 0, .slice none 0 0, .slice none 0 0] 37)).heap.size = w.heap.size + 3 := by simp
  have a0 : (((w.alloc (.cells #[.int .i64 B.n, .slice ao B.orders.length co, .slice al B.locked.length cl, .slice ac B.occ.length cc] 37)).alloc (.cells #[.int .i64 0, .slice none 0 0, .slice none 0 0, .slice none 0 0] 37)).alloc (.cells #[.int .i64 B.n, .slice none 0 0, .slice none 0 0, .slice none 0 0] 37)).heap[w.heap.size]? = some (.cells #[.int .i64 B.n, .slice ao B.orders.length co, .slice al B.locked.length cl, .slice ac B.occ.length cc] 37 (0, 0)) := by
    rw [Deep.blk_alloc_lt _ _ _ (by simp; omega), Deep.blk_alloc_lt _ _ _ (by simp)]; exact Deep.blk_alloc_new _ _
  have a1 : (((w.alloc (.cells #[.int .i64 B.n, .slice ao B.orders.length co, .slice al B.locked.length cl, .slice ac B.occ.length cc] 37)).alloc (.cells #[.int .i64 0, .slice none 0 0, .slice none 0 0, .slice none 0 0] 37)).alloc (.cells #[.int .i64 B.n, .slice none 0 0, .slice none 0 0, .slice none 0 0] 37)).heap[w.heap.size + 1]? = some (.cells #[.int .i64 0, .slice none 0 0, .slice none 0 0, .slice none 0 0] 37 (0, 0)) := by
    rw [Deep.blk_alloc_lt _ _ _ (by simp)]
    have := Deep.blk_alloc_new (w.alloc (.cells #[.int .i64 B.n, .slice ao B.orders.length co, .slice al B.locked.length cl, .slice ac B.occ.length cc] 37)) (.cells #[.int .i64 0, .slice none 0 0, .slice none 0 0, .slice none 0 0] 37)
    simpa using this
  have a2 : (((w.alloc (.cells #[.int .i64 B.n, .slice ao B.orders.length co, .slice al B.locked.length cl, .slice ac B.occ.length cc] 37)).alloc (.cells #[.int .i64 0, .slice none 0 0, .slice none 0 0, .slice none 0 0] 37)).alloc (.cells #[.int .i64 B.n, .slice none 0 0, .slice none 0 0, .slice none 0 0] 37)).heap[w.heap.size + 1 + 1]? = some (.cells #[.int .i64 B.n, .slice none 0 0, .slice none 0 0, .slice none 0 0] 37 (0, 0)) := by
    have := Deep.blk_alloc_new ((w.alloc (.cells #[.int .i64 B.n, .slice ao B.orders.length co, .slice al B.locked.length cl, .slice ac B.occ.length cc] 37)).alloc (.cells #[.int .i64 0, .slice none 0 0, .slice none 0 0, .slice none 0 0] 37)) (.cells #[.int .i64 B.n, .slice none 0 0, .slice none 0 0, .slice none 0 0] 37)
    simpa using this
  have HA : Hid ((((w.alloc (.cells #[.int .i64 B.n, .slice ao B.orders.length co, .slice al B.locked.length cl, .slice ac B.occ.length cc] 37)).alloc (.cells #[.int .i64 0, .slice none 0 0, .slice none 0 0, .slice none 0 0] 37)).alloc (.cells #[.int .i64 B.n, .slice none 0 0, .slice none 0 0, .slice none 0 0] 37)).heap[w.heap.size]? = some (.cells #[.int .i64 B.n, .slice ao B.orders.length co, .slice al B.locked.length cl, .slice ac B.occ.length cc] 37 (0, 0)) ∧ (((w.alloc (.cells #[.int .i64 B.n, .slice ao B.orders.length co, .slice al B.locked.length cl, .slice ac B.occ.length cc] 37)).alloc (.cells #[.int .i64 0, .slice none 0 0, .slice none 0 0, .slice none 0 0] 37)).alloc (.cells #[.int .i64 B.n, .slice none 0 0, .slice none 0 0, .slice none 0 0] 37)).heap[w.heap.size + 1]? = some (.cells #[.int .i64 0, .slice none 0 0, .slice none 0 0, .slice none 0 0] 37 (0, 0)) ∧ (((w.alloc (.cells #[.int .i64 B.n, .slice ao B.orders.length co, .slice al B.locked.length cl, .slice ac B.occ.length cc] 37)).alloc (.cells #[.int .i64 0, .slice none 0 0, .slice none 0 0, .slice none 0 0] 37)).alloc (.cells #[.int .i64 B.n, .slice none 0 0, .slice none 0 0, .slice none 0 0] 37)).heap[w.heap.size + 1 + 1]? = some (.cells #[.int .i64 B.n, .slice none 0 0, .slice none 0 0, .slice none 0 0] 37 (0, 0)) ∧ Below w.heap.size w (((w.alloc (.cells #[.int .i64 B.n, .slice ao B.orders.length co, .slice al B.locked.length cl, .slice ac B.occ.length cc] 37)).alloc (.cells #[.int .i64 0, .slice none 0 0, .slice none 0 0, .slice none 0 0] 37)).alloc (.cells #[.int .i64 B.n, .slice none 0 0, .slice none 0 0, .slice none 0 0] 37)) ∧ (((w.alloc (.cells #[.int .i64 B.n, .slice ao B.orders.length co, .slice al B.locked.length cl, .slice ac B.occ.length cc] 37)).alloc (.cells #[.int .i64 0, .slice none 0 0, .slice none 0 0, .slice none 0 0] 37)).alloc (.cells #[.int .i64 B.n, .slice none 0 0, .slice none 0 0, .slice none 0 0] 37)).heap.size = w.heap.size + 3) := ⟨a0, a1, a2, B3, sz3⟩
  clear a0 a1 a2 B3 sz3
  go_wp2_with (at_builtin; refine stand ?_)
  refine Stand.go ?_
  refine wpList_append_cells _ rfl _ _ 35 rfl (w.heap.size + 3) 4 ib (.bool false) 1 Tryz.underlying35 hib zb0 zb1 zb2 rfl _ _ _ rfl (World.ownsRow_nil _ _ _ _) al B.locked.length cl (bV B.locked) rfl (HC.out.1.below HA.out.2.2.2.1) (fun _ => rfl) (by unfold maxLen; omega) (by omega) (by rw [HA.out.2.2.2.2]; omega) ?_
  intro vL wL hownL hgL hnL hbL
  rw [Nat.zero_add] at hownL
  obtain ⟨adL, cL, GL, rfl, hL, hkL⟩ := ownBools_of (V := fun i => B.locked.getD i false) hownL
  have bA := HA.out.2.2.2.2
  have bAL : Below (((w.alloc (.cells #[.int .i64 B.n, .slice ao B.orders.length co, .slice al B.locked.length cl, .slice ac B.occ.length cc] 37)).alloc (.cells #[.int .i64 0, .slice none 0 0, .slice none 0 0, .slice none 0 0] 37)).alloc (.cells #[.int .i64 B.n, .slice none 0 0, .slice none 0 0, .slice none 0 0] 37)).heap.size (((w.alloc (.cells #[.int .i64 B.n, .slice ao B.orders.length co, .slice al B.locked.length cl, .slice ac B.occ.length cc] 37)).alloc (.cells #[.int .i64 0, .slice none 0 0, .slice none 0 0, .slice none 0 0] 37)).alloc (.cells #[.int .i64 B.n, .slice none 0 0, .slice none 0 0, .slice none 0 0] 37)) wL := grown_below hgL (fun g hg => by cases hg) (Nat.le_refl _)
  have x0 : wL.heap[w.heap.size]? = some (.cells #[.int .i64 B.n, .slice ao B.orders.length co, .slice al B.locked.length cl, .slice ac B.occ.length cc] 37 (0, 0)) := (bAL.block _ (by omega)).trans HA.out.1
  have x1 : wL.heap[w.heap.size + 1]? = some (.cells #[.int .i64 0, .slice none 0 0, .slice none 0 0, .slice none 0 0] 37 (0, 0)) := (bAL.block _ (by omega)).trans HA.out.2.1
  have x2 : wL.heap[w.heap.size + 1 + 1]? = some (.cells #[.int .i64 B.n, .slice none 0 0, .slice none 0 0, .slice none 0 0] 37 (0, 0)) := (bAL.block _ (by omega)).trans HA.out.2.2.1
  have bL : Below w.heap.size w wL := below_trans HA.out.2.2.2.1 HA.out.2.2.2.1.size bAL
  have zL : w.heap.size + 3 ≤ wL.heap.size := by have := bAL.size; omega
  have HL : Hid (OwnBools wL (w.heap.size + 3) adL B.locked.length (fun i => B.locked.getD i false) GL ∧ wL.heap[w.heap.size]? = some (.cells #[.int .i64 B.n, .slice ao B.orders.length co, .slice al B.locked.length cl, .slice ac B.occ.length cc] 37 (0, 0)) ∧ wL.heap[w.heap.size + 1]? = some (.cells #[.int .i64 0, .slice none 0 0, .slice none 0 0, .slice none 0 0] 37 (0, 0)) ∧ wL.heap[w.heap.size + 1 + 1]? = some (.cells #[.int .i64 B.n, .slice none 0 0, .slice none 0 0, .slice none 0 0] 37 (0, 0)) ∧ Below w.heap.size w wL) := ⟨hL, x0, x1, x2, bL⟩
  obtain ⟨m0, m1, m2, m3⟩ := box_cells x0
  obtain ⟨o0, o1, o2, o3⟩ := box_cells x2
  have fz : ∀ i, wL.frozen? ⟨w.heap.size + 1 + 1, i, none⟩ = false := fun i => frozen_of_box x2
  have fz2 := fz 2
  clear hownL hgL hnL hbL hL hkL bA bAL x0 x1 x2 bL HA fz
  go_wp2_with (at_builtin; refine stand ?_)
  refine Stand.go ?_
  have SL : Below w.heap.size w (wL.setCell ⟨w.heap.size + 1 + 1, 2, none⟩ (.slice adL B.locked.length cL)) := below_set HL.out.2.2.2.2 _ _ (by omega) _
  have szL : (wL.setCell ⟨w.heap.size + 1 + 1, 2, none⟩ (.slice adL B.locked.length cL)).heap.size = wL.heap.size := by simp [World.setCell]
  refine wpList_append_cells _ rfl _ _ 35 rfl (w.heap.size + 3) 4 ib (.bool false) 1 Tryz.underlying35 hib zb0 zb1 zb2 rfl _ _ _ rfl (World.ownsRow_nil _ _ _ _) ac B.occ.length cc (bV B.occ) rfl (HC.out.2.below SL) (fun _ => rfl) (by unfold maxLen; omega) (by omega) (by rw [szL]; exact zL) ?_
  intro vC wC hownC hgC hnC hbC
  rw [Nat.zero_add] at hownC
  obtain ⟨adC, cC, GC, rfl, hC, hkC⟩ := ownBools_of (V := fun i => B.occ.getD i false) hownC
  have bLC : Below (wL.setCell ⟨w.heap.size + 1 + 1, 2, none⟩ (.slice adL B.locked.length cL)).heap.size (wL.setCell ⟨w.heap.size + 1 + 1, 2, none⟩ (.slice adL B.locked.length cL)) wC := grown_below hgC (fun g hg => by cases hg) (Nat.le_refl _)
  have hGC : 0 < B.occ.length → GC = wL.heap.size := fun p => by
    have e1 := hkC p
    rcases hbC with e | e
    · rw [e1] at e; cases e
    · rw [e1, szL] at e; exact Option.some.inj e
  have x1 : wC.heap[w.heap.size + 1]? = some (.cells #[.int .i64 0, .slice none 0 0, .slice none 0 0, .slice none 0 0] 37 (0, 0)) := (bLC.block _ (by rw [szL]; omega)).trans ((box_other (by omega) _).trans HL.out.2.2.1)
  have x2 : wC.heap[w.heap.size + 1 + 1]? = some (.cells #[.int .i64 B.n, .slice none 0 0, .slice adL B.locked.length cL, .slice none 0 0] 37 (0, 0)) := (bLC.block _ (by rw [szL]; omega)).trans ((box_set HL.out.2.2.2.1 _).trans rfl)
  have bC : Below w.heap.size w wC := below_trans SL SL.size bLC
  have hL2 : OwnBools wC (w.heap.size + 3) adL B.locked.length (fun i => B.locked.getD i false) GL := (HL.out.1.setOther (fun p => by have := HL.out.1.low p; show GL ≠ w.heap.size + 1 + 1; omega) _).below bLC
  have zC : wL.heap.size ≤ wC.heap.size := by have := bLC.size; omega
  have hGL : 0 < B.locked.length → GL < wL.heap.size := fun p => (HL.out.1.row p).lt
  have HD : Hid (OwnBools wC (w.heap.size + 3) adL B.locked.length (fun i => B.locked.getD i false) GL ∧ OwnBools wC (w.heap.size + 3) adC B.occ.length (fun i => B.occ.getD i false) GC ∧ (0 < B.locked.length → GL < wC.heap.size) ∧ (0 < B.occ.length → GC < wC.heap.size) ∧ (0 < B.locked.length → 0 < B.occ.length → GL ≠ GC) ∧ wC.heap[w.heap.size + 1]? = some (.cells #[.int .i64 0, .slice none 0 0, .slice none 0 0, .slice none 0 0] 37 (0, 0)) ∧ wC.heap[w.heap.size + 1 + 1]? = some (.cells #[.int .i64 B.n, .slice none 0 0, .slice adL B.locked.length cL, .slice none 0 0] 37 (0, 0)) ∧ Below w.heap.size w wC) :=
    ⟨hL2, hC, fun p => by have := hGL p; omega, fun p => (hC.row p).lt, fun p q => by have := hGL p; have := hGC q; omega, x1, x2, bC⟩
  obtain ⟨n0, n1, n2, n3⟩ : wC.cell? ⟨w.heap.size, 0, none⟩ = some (.int .i64 B.n) ∧ wC.cell? ⟨w.heap.size, 1, none⟩ = some (.slice ao B.orders.length co) ∧ wC.cell? ⟨w.heap.size, 2, none⟩ = some (.slice al B.locked.length cl) ∧ wC.cell? ⟨w.heap.size, 3, none⟩ = some (.slice ac B.occ.length cc) := box_cells ((bLC.block _ (by rw [szL]; omega)).trans ((box_other (by omega) _).trans HL.out.2.1))
  obtain ⟨o0, o1, o2, o3⟩ := box_cells x2
  have fz3 : wC.frozen? ⟨w.heap.size + 1 + 1, 3, none⟩ = false := frozen_of_box x2
  clear hownC hgC hnC hbC hC hkC bLC hGC x1 x2 bC hL2 hGL HL SL szL m0 m1 m2 m3 fz2
  go_wp2
  have SC : Below w.heap.size w (wC.setCell ⟨w.heap.size + 1 + 1, 3, none⟩ (.slice adC B.occ.length cC)) := below_set HD.out.2.2.2.2.2.2.2 _ _ (by omega) _
  obtain ⟨O, hO⟩ : ∃ O, O = B.orders.length := ⟨_, rfl⟩
  have HO : Hid (O = B.orders.length) := hO
  rw [← hO] at ho hs hd g' ⊢
  clear hO n0 n1 n2 n3 o0 o1 o2 o3 fz3
  go_loopw [25] (fun i wr => ∃ (k : Nat) (u : Value) (gs : Nat → Nat) (sa : Nat → Option Addr) (sc : Nat → Nat), k ≤ O ∧ i = .int .i64 k ∧ Below w.heap.size w wr ∧ wr.heap[w.heap.size + 1]? = some (.cells #[.int .i64 0, .slice none 0 0, .slice none 0 0, .slice none 0 0] 37 (0, 0)) ∧ wr.heap[w.heap.size + 1 + 1]? = some (.cells #[.int .i64 B.n, u, .slice adL B.locked.length cL, .slice adC B.occ.length cC] 37 (0, 0)) ∧ RowOrds wr wC.heap.size u k (bX B) gs sa sc ∧ OwnBools wr (w.heap.size + 3) adL B.locked.length (fun i => B.locked.getD i false) GL ∧ OwnBools wr (w.heap.size + 3) adC B.occ.length (fun i => B.occ.getD i false) GC ∧ wC.heap.size ≤ wr.heap.size) (fun i _ => O - (intOf i).toNat)
  case atStart =>
    obtain ⟨q1, q2, _, _, _, q3, q4, _⟩ := HD.out
    exact ⟨0, _, fun _ => 0, fun _ => none, fun _ => 0, Nat.zero_le _, rfl, SC, (box_other (by omega) _).trans q3, (box_set q4 _).trans rfl, RowOrds.start _ _ _ _ _ _, q1.setOther (fun p => by have := q1.low p; show GL ≠ w.heap.size + 1 + 1; omega) _, q2.setOther (fun p => by have := q2.low p; show GC ≠ w.heap.size + 1 + 1; omega) _, by simp [World.setCell]⟩
  case round =>
    obtain ⟨k, u, gs, sa, sc, hk, rfl, hb, r1, r2, hrow, hL, hC, hz⟩ := hrel
    by_cases hlt : k < O
    · obtain rfl := hd (by omega)
      obtain ⟨sk, ck, q⟩ := g' k hlt
      have hsk := hs k hlt
      obtain ⟨x0, x1, x2, x3, x4⟩ := q.below hb
      have HX : Hid (Cells wr sk (bX B k).secs.length (iV (bX B k).secs)) := x4
      have HR : Hid (RowOrds wr wC.heap.size u k (bX B) gs sa sc ∧ OwnBools wr (w.heap.size + 3) adL B.locked.length (fun i => B.locked.getD i false) GL ∧ OwnBools wr (w.heap.size + 3) adC B.occ.length (fun i => B.occ.getD i false) GC ∧ wr.heap[w.heap.size + 1]? = some (.cells #[.int .i64 0, .slice none 0 0, .slice none 0 0, .slice none 0 0] 37 (0, 0)) ∧ wr.heap[w.heap.size + 1 + 1]? = some (.cells #[.int .i64 B.n, u, .slice adL B.locked.length cL, .slice adC B.occ.length cC] 37 (0, 0)) ∧ Below w.heap.size w wr) := ⟨hrow, hL, hC, r1, r2, hb⟩
      have z3 : w.heap.size + 3 ≤ wr.heap.size := by omega
      clear q g' hs hd x4 hrow hL hC r1 r2 hb
      go_wp2_with (at_builtin; refine stand ?_)
      refine Stand.go ?_
      have S3 : Below wr.heap.size wr (((wr.alloc (.cells #[.string (bX B k).holder, .int .i64 (bX B k).kind, .slice sk (bX B k).secs.length ck, .int .i64 (bX B k).state] 41)).alloc (.cells #[.string (bX B k).holder, .int .i64 (bX B k).kind, .slice sk (bX B k).secs.length ck, .int .i64 (bX B k).state] 41)).alloc (.cells #[] 3)) := below3 _ _ _ _
      have sz3 : (((wr.alloc (.cells #[.string (bX B k).holder, .int .i64 (bX B k).kind, .slice sk (bX B k).secs.length ck, .int .i64 (bX B k).state] 41)).alloc (.cells #[.string (bX B k).holder, .int .i64 (bX B k).kind, .slice sk (bX B k).secs.length ck, .int .i64 (bX B k).state] 41)).alloc (.cells #[] 3)).heap.size = wr.heap.size + 3 := by simp
      have ow : (((wr.alloc (.cells #[.string (bX B k).holder, .int .i64 (bX B k).kind, .slice sk (bX B k).secs.length ck, .int .i64 (bX B k).state] 41)).alloc (.cells #[.string (bX B k).holder, .int .i64 (bX B k).kind, .slice sk (bX B k).secs.length ck, .int .i64 (bX B k).state] 41)).alloc (.cells #[] 3)).ownsRow wr.heap.size 3 1 (.slice (some ⟨wr.heap.size + 1 + 1, 0, none⟩) 0 0) 0 [] := by
        have := World.ownsRow_lit (e := 3) (base := wr.heap.size) (size := 1) ((wr.alloc (.cells #[.string (bX B k).holder, .int .i64 (bX B k).kind, .slice sk (bX B k).secs.length ck, .int .i64 (bX B k).state] 41)).alloc (.cells #[.string (bX B k).holder, .int .i64 (bX B k).kind, .slice sk (bX B k).secs.length ck, .int .i64 (bX B k).state] 41)) #[] 0 (by simp; omega) (by unfold maxLen; omega) rfl
        simpa using this
      refine wpList_append_cells _ rfl _ _ 30 rfl wr.heap.size 3 ii (.int .i64 0) 8 Tryz.underlying30 hii zi0 zi1 zi2 rfl _ _ _ rfl ow sk (bX B k).secs.length ck (iV (bX B k).secs) rfl (HX.out.below S3) (fun _ => rfl) (by unfold maxLen; omega) (by omega) (by rw [sz3]; omega) ?_
      intro vS wS hownS hgS hnS hbS
      rw [Nat.zero_add] at hownS
      obtain ⟨adS, cS, GS, rfl, hpS⟩ := pre_of_owns (size := 1) (V := iV (bX B k).secs) (by rw [Nat.mul_one]; exact hownS)
      rw [Nat.mul_one] at hpS
      have bS : Below (wr.heap.size + 2) (((wr.alloc (.cells #[.string (bX B k).holder, .int .i64 (bX B k).kind, .slice sk (bX B k).secs.length ck, .int .i64 (bX B k).state] 41)).alloc (.cells #[.string (bX B k).holder, .int .i64 (bX B k).kind, .slice sk (bX B k).secs.length ck, .int .i64 (bX B k).state] 41)).alloc (.cells #[] 3)) wS := grown_below hgS (fun g hg => by have h2 : wr.heap.size + 1 + 1 = g := Option.some.inj hg; omega) (by rw [sz3]; omega)
      have y6 : wS.heap[wr.heap.size + 1]? = some (.cells #[.string (bX B k).holder, .int .i64 (bX B k).kind, .slice sk (bX B k).secs.length ck, .int .i64 (bX B k).state] 41 (0, 0)) := (bS.block _ (by omega)).trans (by
        rw [Deep.blk_alloc_lt _ _ _ (by simp)]
        have := Deep.blk_alloc_new (wr.alloc (.cells #[.string (bX B k).holder, .int .i64 (bX B k).kind, .slice sk (bX B k).secs.length ck, .int .i64 (bX B k).state] 41)) (.cells #[.string (bX B k).holder, .int .i64 (bX B k).kind, .slice sk (bX B k).secs.length ck, .int .i64 (bX B k).state] 41)
        simpa using this)
      have bwS : Below wr.heap.size wr wS := S3.trans (bS.mono (by omega))
      have zS : wr.heap.size + 3 ≤ wS.heap.size := by have := bS.size; omega
      have hGS : 0 < (bX B k).secs.length → adS = some ⟨GS, 0, none⟩ ∧ Pre wS GS 3 (bX B k).secs.length (iV (bX B k).secs) ∧ wr.heap.size + 2 ≤ GS := fun p => by
        refine ⟨(hpS p).1, (hpS p).2.2.1, ?_⟩
        rcases hbS with e | e
        · rw [(hpS p).2.2.2] at e
          have h2 : GS = wr.heap.size + 1 + 1 := Option.some.inj e
          omega
        · rw [(hpS p).2.2.2, sz3] at e
          have := Option.some.inj e
          omega
      have y2 := (bwS.block _ (by omega)).trans HR.out.2.2.2.2.1
      have HY : Hid ((0 < (bX B k).secs.length → adS = some ⟨GS, 0, none⟩ ∧ Pre wS GS 3 (bX B k).secs.length (iV (bX B k).secs) ∧ wr.heap.size + 2 ≤ GS) ∧ Below wr.heap.size wr wS ∧ wS.heap[wr.heap.size + 1]? = some (.cells #[.string (bX B k).holder, .int .i64 (bX B k).kind, .slice sk (bX B k).secs.length ck, .int .i64 (bX B k).state] 41 (0, 0)) ∧ wS.heap[w.heap.size + 1 + 1]? = some (.cells #[.int .i64 B.n, u, .slice adL B.locked.length cL, .slice adC B.occ.length cC] 37 (0, 0))) := ⟨hGS, bwS, y6, y2⟩
      obtain ⟨p0, p1, p2, p3⟩ := box_cells y6
      obtain ⟨o0, o1, o2, o3⟩ := box_cells y2
      have f6 : wS.frozen? ⟨wr.heap.size + 1, 2, none⟩ = false := frozen_of_box y6
      clear hownS hgS hnS hbS hpS bS y6 bwS hGS y2 S3 sz3 ow HX x0 x1 x2 x3
      go_wp2_with (at_builtin; refine stand ?_)
      refine Stand.go ?_
      have S4 : Below wr.heap.size wr ((wS.setCell ⟨wr.heap.size + 1, 2, none⟩ (.slice adS (bX B k).secs.length cS)).alloc (.cells #[.string (bX B k).holder, .int .i64 (bX B k).kind, .slice adS (bX B k).secs.length cS, .int .i64 (bX B k).state] 41)) := ((below_set HY.out.2.1 _ _ (by omega) _).alloc (by simp [World.setCell]; omega) _)
      have sz4 : (wS.setCell ⟨wr.heap.size + 1, 2, none⟩ (.slice adS (bX B k).secs.length cS)).heap.size = wS.heap.size := by simp [World.setCell]
      have R4 := HR.out.1.below S4
      have n4 : ∀ j u', (cellsOf (bX B k) adS cS)[j]? = some u' → ((wS.setCell ⟨wr.heap.size + 1, 2, none⟩ (.slice adS (bX B k).secs.length cS)).alloc (.cells #[.string (bX B k).holder, .int .i64 (bX B k).kind, .slice adS (bX B k).secs.length cS, .int .i64 (bX B k).state] 41)).cell? ((⟨wS.heap.size, 0, none⟩ : Addr).add j) = some u' := by
        have hn := Deep.blk_alloc_new (wS.setCell ⟨wr.heap.size + 1, 2, none⟩ (.slice adS (bX B k).secs.length cS)) (.cells #[.string (bX B k).holder, .int .i64 (bX B k).kind, .slice adS (bX B k).secs.length cS, .int .i64 (bX B k).state] 41)
        rw [sz4] at hn
        intro j u' hu
        rw [add0]
        refine cell_of_box hn ?_
        rw [← Array.getElem?_toList]
        exact hu
      refine wpList_append_own_at _ rfl _ _ 34 rfl wC.heap.size 41 io _ 4 56 Tryz.underlying34 hio zo0 zo1 zo2 rfl (by decide) u k (flat (bX B) sa sc k) rfl R4.row ⟨wS.heap.size, 0, none⟩ 1 1 (cellsOf (bX B k) adS cS) rfl rfl n4 ?_ (by unfold maxLen; omega) (by omega) (by simp [World.setCell]; omega) ?_
      · intro x hx
        simp only [cellsOf, List.mem_cons, List.not_mem_nil, or_false] at hx
        rcases hx with rfl | rfl | rfl | rfl <;> rfl
      intro vU wU hownU hgU _ hbU
      have push := RowOrds.push R4 (bX B k) GS adS cS (fun p => by
        obtain ⟨t1, t2, t3⟩ := HY.out.1 p
        refine ⟨t1, (t2.setOther (a := ⟨wr.heap.size + 1, 2, none⟩) (by show GS ≠ wr.heap.size + 1; omega) _).of_block (Deep.blk_alloc_lt _ _ _ (by rw [sz4]; exact t2.lt)), by omega, fun e => ?_, fun i hi hp => ?_⟩
        · have := (owns_lt HR.out.1.row e).2; omega
        · have := (HR.out.1.sec i hi hp).2.1.lt; omega) hownU hgU hbU
      rw [put1_same] at push
      obtain ⟨adU, cU, GU, rfl, -, -⟩ := push.own
      have z4 : ((wS.setCell ⟨wr.heap.size + 1, 2, none⟩ (.slice adS (bX B k).secs.length cS)).alloc (.cells #[.string (bX B k).holder, .int .i64 (bX B k).kind, .slice adS (bX B k).secs.length cS, .int .i64 (bX B k).state] 41)).heap.size = wS.heap.size + 1 := by simp [World.setCell]
      have bU : Below wC.heap.size ((wS.setCell ⟨wr.heap.size + 1, 2, none⟩ (.slice adS (bX B k).secs.length cS)).alloc (.cells #[.string (bX B k).holder, .int .i64 (bX B k).kind, .slice adS (bX B k).secs.length cS, .int .i64 (bX B k).state] 41)) wU := grown_below hgU (fun g hg => (owns_lt R4.row hg).1) (by rw [z4]; omega)
      have y1U : wU.heap[w.heap.size + 1]? = some (.cells #[.int .i64 0, .slice none 0 0, .slice none 0 0, .slice none 0 0] 37 (0, 0)) := (bU.block _ (by omega)).trans ((S4.block _ (by omega)).trans HR.out.2.2.2.1)
      have y2U : wU.heap[w.heap.size + 1 + 1]? = some (.cells #[.int .i64 B.n, u, .slice adL B.locked.length cL, .slice adC B.occ.length cC] 37 (0, 0)) := (bU.block _ (by omega)).trans ((S4.block _ (by omega)).trans HR.out.2.2.2.2.1)
      have bwU : Below w.heap.size w wU := (below_trans HR.out.2.2.2.2.2 HR.out.2.2.2.2.2.size S4).trans (bU.mono (by omega))
      have HU : Hid (RowOrds wU wC.heap.size (.slice adU (k + 1) cU) (k + 1) (bX B) (put1 gs k GS) (put1 sa k adS) (put1 sc k cS) ∧ wU.heap[w.heap.size + 1]? = some (.cells #[.int .i64 0, .slice none 0 0, .slice none 0 0, .slice none 0 0] 37 (0, 0)) ∧ wU.heap[w.heap.size + 1 + 1]? = some (.cells #[.int .i64 B.n, u, .slice adL B.locked.length cL, .slice adC B.occ.length cC] 37 (0, 0)) ∧ Below w.heap.size w wU ∧ OwnBools wU (w.heap.size + 3) adL B.locked.length (fun i => B.locked.getD i false) GL ∧ OwnBools wU (w.heap.size + 3) adC B.occ.length (fun i => B.occ.getD i false) GC ∧ wC.heap.size ≤ wU.heap.size) :=
        ⟨push, y1U, y2U, bwU, (HR.out.2.1.below S4).ofBlock (fun p => bU.block _ (HD.out.2.2.1 p)), (HR.out.2.2.1.below S4).ofBlock (fun p => bU.block _ (HD.out.2.2.2.1 p)), by have := bU.size; omega⟩
      have oU : wU.cell? ⟨w.heap.size + 1 + 1, 1, none⟩ = some u := cell_of_box y2U rfl
      have fU : wU.frozen? ⟨w.heap.size + 1 + 1, 1, none⟩ = false := frozen_of_box y2U
      clear push hownU hgU hbU z4 bU y1U y2U bwU HY HR S4 sz4 R4 n4 p0 p1 p2 p3 o0 o1 o2 o3 f6
      go_wp2
      go_roundw
      case rel =>
        obtain ⟨t1, t2, t3, t4, t5, t6, t7⟩ := HU.out
        exact ⟨k + 1, _, put1 gs k GS, put1 sa k adS, put1 sc k cS, by omega, by go_num, below_set t4 _ _ (by omega) _, (box_other (by omega) _).trans t2, (box_set t3 _).trans rfl, t1.setLow _ _ (by omega) _, t5.setOther (fun p => by have := t5.low p; show GL ≠ w.heap.size + 1 + 1; omega) _, t6.setOther (fun p => by have := t6.low p; show GC ≠ w.heap.size + 1 + 1; omega) _, by simp [World.setCell]; omega⟩
      case measure => simp [intOf]; omega
    · obtain rfl : k = O := by omega
      have HR : Hid (RowOrds wr wC.heap.size u k (bX B) gs sa sc ∧ OwnBools wr (w.heap.size + 3) adL B.locked.length (fun i => B.locked.getD i false) GL ∧ OwnBools wr (w.heap.size + 3) adC B.occ.length (fun i => B.occ.getD i false) GC ∧ Below w.heap.size w wr) := ⟨hrow, hL, hC, hb⟩
      obtain ⟨adU, cU, GU, rfl, -, -⟩ := hrow.own
      obtain ⟨o0, o1, o2, o3⟩ := box_cells r2
      obtain ⟨q0, q1, q2, q3⟩ := box_cells r1
      have f0 : wr.frozen? ⟨w.heap.size + 1, 0, none⟩ = false := frozen_of_box r1
      have f1 : wr.frozen? ⟨w.heap.size + 1, 1, none⟩ = false := frozen_of_box r1
      have f2 : wr.frozen? ⟨w.heap.size + 1, 2, none⟩ = false := frozen_of_box r1
      have f3 : wr.frozen? ⟨w.heap.size + 1, 3, none⟩ = false := frozen_of_box r1
      clear g' hs hd hrow hL hC hb r1 r2
      go_wp2
      refine bodyPost_ret (v := .agg #[.int .i64 B.n, .slice adU k cU, .slice adL B.locked.length cL, .slice adC B.occ.length cC]) (by simp [results, Tryz.results23, go_sem, q0, q1, q2, q3]) rfl ⟨_, rfl, ?_, ?_⟩
      · obtain ⟨t1, t2, t3, t4⟩ := HR.out
        rw [HO.out] at t1 ⊢
        refine rowBook_mk (H := wC.heap.size) (GL := GL) (GC := GC) (gs := gs) (sa := sa) (sc := sc) ?_ (by omega) ?_ ?_ (HD.out.2.2.1) (HD.out.2.2.2.1) (HD.out.2.2.2.2.1)
        · repeat (refine RowOrds.setLow ?_ _ _ (by omega) _)
          exact t1
        · refine OwnBools.mono (lo := w.heap.size + 3) ?_ (by omega)
          repeat (refine OwnBools.setOther ?_ (fun p => by have := t2.low p; show GL ≠ w.heap.size + 1; omega) _)
          exact t2
        · refine OwnBools.mono (lo := w.heap.size + 3) ?_ (by omega)
          repeat (refine OwnBools.setOther ?_ (fun p => by have := t3.low p; show GC ≠ w.heap.size + 1; omega) _)
          exact t3
      · have t4 := HR.out.2.2.2
        repeat (refine below_set ?_ _ _ (by omega) _)
        exact t4
end Go.Proofs.YtdlaekjofgbjcaaGreatDoor