import Derived.Test.YteifekoiognhmaaGreatDoorSCopy
import Derived.Test.YteifekoiognhmaaGreatDoorEvsZ
/-
  The contract of spec.l2copy once more: the slices of the copy fill their blocks. Mine, by program (wip/scopy2.py), by template (wip/gen.py).
-/
namespace Go.Proofs.YteifekoiognhmaaGreatDoor
open Go.RowKit

/-- A slice of n cells that begins a block of just cap cells. -/
def TightG (w : World) (g : Nat) (t : TypeId) (n cap : Nat) : Prop := ∃ cur : Array Value, w.heap[g]? = some (.cells cur t (0, 0)) ∧ n ≤ cap ∧ cap ≤ maxLen ∧ cur.size = cap
theorem TightG.of_block {w w' : World} {g : Nat} {t : TypeId} {n cap : Nat} (h : TightG w g t n cap) (hb : w'.heap[g]? = w.heap[g]?) : TightG w' g t n cap := by
  obtain ⟨cur, h1, h2⟩ := h
  exact ⟨cur, hb.trans h1, h2⟩
theorem TightG.setCell {w : World} {g : Nat} {t : TypeId} {n cap : Nat} (h : TightG w g t n cap) (b o : Nat) (u : Value) : TightG (w.setCell ⟨b, o, none⟩ u) g t n cap := by
  by_cases e : g = b
  · subst e
    obtain ⟨cur, h1, h2, h3, h4⟩ := h
    exact ⟨_, box_set h1 u, h2, h3, by simpa using h4⟩
  · exact h.of_block (Deep.blk_setCell_other _ _ _ _ e)
theorem TightG.lt {w : World} {g : Nat} {t : TypeId} {n cap : Nat} (h : TightG w g t n cap) : g < w.heap.size := by
  obtain ⟨cur, h1, _⟩ := h
  exact (Array.getElem?_eq_some_iff.1 h1).1
theorem tight_of {w : World} {lo g : Nat} {t : TypeId} {ad : Option Addr} {n cap : Nat} {xs : List Value} (h : w.ownsRow lo t 1 (.slice ad n cap) n xs) (hg : (Value.slice ad n cap).ownBlock = some g) : TightG w g t n cap := by
  obtain ⟨_, h2⟩ := h
  rcases h2 with ⟨e, _⟩ | ⟨g', cap', cur, e, _, h3, h4, h5, h6, _⟩
  · rw [e] at hg; cases hg
  · simp only [Value.slice.injEq, true_and] at e
    obtain ⟨rfl, rfl⟩ := e
    obtain rfl : g' = g := Option.some.inj hg
    exact ⟨cur, h3, h4, h5, by omega⟩

/-- The copy's lists may be appended to. -/
structure TightB (w : World) (B : Bk) (K : Blk) (cl : Nat) : Prop where
  lock : 0 < B.locked.length → TightG w K.L 4 B.locked.length cl
  sec : ∀ i, i < B.orders.length → 0 < (bX B i).secs.length → TightG w (K.gs i) 3 (bX B i).secs.length (K.sc i)

theorem rowBook_mk' {w : World} {lo H : Nat} {B : Bk} {u : Value} {al ac : Option Addr} {cl cc GL GC : Nat} {gs : Nat → Nat} {sa : Nat → Option Addr} {sc : Nat → Nat}
    (h1 : RowOrds w H u B.orders.length (bX B) gs sa sc) (hlo : lo ≤ H) (h2 : OwnBools w lo al B.locked.length (fun i => B.locked.getD i false) GL) (h3 : OwnBools w lo ac B.occ.length (fun i => B.occ.getD i false) GC)
    (hL : 0 < B.locked.length → GL < H) (hC : 0 < B.occ.length → GC < H) (hLC : 0 < B.locked.length → 0 < B.occ.length → GL ≠ GC) :
    ∃ G, RowBook w lo (.agg #[.int .i64 B.n, u, .slice al B.locked.length cl, .slice ac B.occ.length cc]) B ⟨G, gs, sa, sc, GL, GC⟩ := by
  obtain ⟨ad, c, G, rfl, hown, hk⟩ := h1.own
  have hG : 0 < B.orders.length → H ≤ G := fun p => (owns_lt h1.row (hk p)).1
  refine ⟨G, ⟨⟨ad, c, al, cl, ac, cc, rfl, hown.mono hlo, h2, h3⟩, fun a b => ?_, fun a b => ?_, hLC, fun a i hi hp => ?_, fun a i hi hp => ?_⟩, _, _, _, rfl, h1.mono hlo, hk⟩
  · have := hG a; have := hL b; show GL ≠ G; omega
  · have := hG a; have := hC b; show GC ≠ G; omega
  · have := hL a; have := (hown.slow i hi hp).1; show gs i ≠ GL; omega
  · have := hC a; have := (hown.slow i hi hp).1; show gs i ≠ GC; omega

set_option maxHeartbeats 8000000 in
theorem l2copyT_any (v : Value) (B : Bk) (w : World) (ho : B.orders.length ≤ 1048576) (hs : ∀ i, i < B.orders.length → (bX B i).secs.length ≤ 1048576) (hl : B.locked.length ≤ 1048576) (hc : B.occ.length ≤ 1048576) (G : BookAt w v B) :
    Calls Tryz.prog 23 #[v] w fun e w' => ∃ ao al ac co cl cc K, e = .returned (.agg #[.int .i64 B.n, .slice ao B.orders.length co, .slice al B.locked.length cl, .slice ac B.occ.length cc]) ∧ RowBook w' w.heap.size (.agg #[.int .i64 B.n, .slice ao B.orders.length co, .slice al B.locked.length cl, .slice ac B.occ.length cc]) B K ∧ TightB w' B K cl ∧ Below w.heap.size w w' := by
  obtain ⟨ao, co, al, cl, ac, cc, rfl, ⟨b, o, hd, g⟩, CL, CC⟩ := G
  have g' : ∀ i, i < B.orders.length → ∃ sa sc, OrdAt w b (o + i * 4) (bX B i) sa sc := g
  have HC : Hid (Cells w al B.locked.length (bV B.locked) ∧ Cells w ac B.occ.length (bV B.occ)) := ⟨CL, CC⟩
  clear g CL CC
  obtain ⟨ib, hib, zb0, zb1, zb2⟩ := info_parts Tryz.infoBool
  obtain ⟨ii, hii, zi0, zi1, zi2⟩ := info_parts Tryz.infoInt
  obtain ⟨io, hio, zo0, zo1, zo2⟩ := info_parts Tryz.infoOrder
  have B3 : Below w.heap.size w (((w.alloc (.cells #[.int .i64 B.n, .slice ao B.orders.length co, .slice al B.locked.length cl, .slice ac B.occ.length cc] 37)).alloc (.cells #[.int .i64 0, .slice none 0 0, .slice none 0 0, .slice none 0 0] 37)).alloc (.cells #[.int .i64 B.n, .slice none 0 0, .slice none 0 0, .slice none 0 0] 37)) := below3 _ _ _ _
  go_enter Tryz.func23, Tryz.ntmps23
  have sz3 : (((w.alloc (.cells #[.int .i64 B.n, .slice ao B.orders.length co, .slice al B.locked.length cl, .slice ac B.occ.length cc] 37)).alloc (.cells #[.int .i64 0, .slice none 0 0, .slice none 0 0, .slice none 0 0] 37)).alloc (.cells #[.int .i64 B.n, .slice none 0 0, .slice none 0 0, .slice none 0 0] 37)).heap.size = w.heap.size + 3 := by simp
  have a0 : (((w.alloc (.cells #[.int .i64 B.n, .slice ao B.orders.length co, .slice al B.locked.length cl, .slice ac B.occ.length cc] 37)).alloc (.cells #[.int .i64 0, .slice none 0 0, .slice none 0 0, .slice none 0 0] 37)).alloc (.cells #[.int .i64 B.n, .slice none 0 0, .slice none 0 0, .slice none 0 0] 37)).heap[w.heap.size]? = some (.cells #[.int .i64 B.n, .slice ao B.orders.length co, .slice al B.locked.length cl, .slice ac B.occ.length cc] 37 (0, 0)) := by
    rw [Deep.blk_alloc_lt _ _ _ (by simp; omega), Deep.blk_alloc_lt _ _ _ (by simp)]; exact Deep.blk_alloc_new _ _
  have a1 : (((w.alloc (.cells #[.int .i64 B.n, .slice ao B.orders.length co, .slice al B.locked.length cl, .slice ac B.occ.length cc] 37)).alloc (.cells #[.int .i64 0, .slice none 0 0, .slice none 0 0, .slice none 0 0] 37)).alloc (.cells #[.int .i64 B.n, .slice none 0 0, .slice none 0 0, .slice none 0 0] 37)).heap[w.heap.size + 1]? = some (.cells #[.int .i64 0, .slice none 0 0, .slice none 0 0, .slice none 0 0] 37 (0, 0)) := by
    rw [Deep.blk_alloc_lt _ _ _ (by simp)]
    have := Deep.blk_alloc_new (w.alloc (.cells #[.int .i64 B.n, .slice ao B.orders.length co, .slice al B.locked.length cl, .slice ac B.occ.length cc] 37)) (.cells #[.int .i64 0, .slice none 0 0, .slice none 0 0, .slice none 0 0] 37)
    simpa using this
  have a2 : (((w.alloc (.cells #[.int .i64 B.n, .slice ao B.orders.length co, .slice al B.locked.length cl, .slice ac B.occ.length cc] 37)).alloc (.cells #[.int .i64 0, .slice none 0 0, .slice none 0 0, .slice none 0 0] 37)).alloc (.cells #[.int .i64 B.n, .slice none 0 0, .slice none 0 0, .slice none 0 0] 37)).heap[w.heap.size + 1 + 1]? = some (.cells #[.int .i64 B.n, .slice none 0 0, .slice none 0 0, .slice none 0 0] 37 (0, 0)) := by
    have := Deep.blk_alloc_new ((w.alloc (.cells #[.int .i64 B.n, .slice ao B.orders.length co, .slice al B.locked.length cl, .slice ac B.occ.length cc] 37)).alloc (.cells #[.int .i64 0, .slice none 0 0, .slice none 0 0, .slice none 0 0] 37)) (.cells #[.int .i64 B.n, .slice none 0 0, .slice none 0 0, .slice none 0 0] 37)
    simpa using this
  have HA : Hid ((((w.alloc (.cells #[.int .i64 B.n, .slice ao B.orders.length co, .slice al B.locked.length cl, .slice ac B.occ.length cc] 37)).alloc (.cells #[.int .i64 0, .slice none 0 0, .slice none 0 0, .slice none 0 0] 37)).alloc (.cells #[.int .i64 B.n, .slice none 0 0, .slice none 0 0, .slice none 0 0] 37)).heap[w.heap.size]? = some (.cells #[.int .i64 B.n, .slice ao B.orders.length co, .slice al B.locked.length cl, .slice ac B.occ.length cc] 37 (0, 0)) ∧ (((w.alloc (.cells #[.int .i64 B.n, .slice ao B.orders.length co, .slice al B.locked.length cl, .slice ac B.occ.length cc] 37)).alloc (.cells #[.int .i64 0, .slice none 0 0, .slice none 0 0, .slice none 0 0] 37)).alloc (.cells #[.int .i64 B.n, .slice none 0 0, .slice none 0 0, .slice none 0 0] 37)).heap[w.heap.size + 1]? = some (.cells #[.int .i64 0, .slice none 0 0, .slice none 0 0, .slice none 0 0] 37 (0, 0)) ∧ (((w.alloc (.cells #[.int .i64 B.n, .slice ao B.orders.length co, .slice al B.locked.length cl, .slice ac B.occ.length cc] 37)).alloc (.cells #[.int .i64 0, .slice none 0 0, .slice none 0 0, .slice none 0 0] 37)).alloc (.cells #[.int .i64 B.n, .slice none 0 0, .slice none 0 0, .slice none 0 0] 37)).heap[w.heap.size + 1 + 1]? = some (.cells #[.int .i64 B.n, .slice none 0 0, .slice none 0 0, .slice none 0 0] 37 (0, 0)) ∧ Below w.heap.size w (((w.alloc (.cells #[.int .i64 B.n, .slice ao B.orders.length co, .slice al B.locked.length cl, .slice ac B.occ.length cc] 37)).alloc (.cells #[.int .i64 0, .slice none 0 0, .slice none 0 0, .slice none 0 0] 37)).alloc (.cells #[.int .i64 B.n, .slice none 0 0, .slice none 0 0, .slice none 0 0] 37)) ∧ (((w.alloc (.cells #[.int .i64 B.n, .slice ao B.orders.length co, .slice al B.locked.length cl, .slice ac B.occ.length cc] 37)).alloc (.cells #[.int .i64 0, .slice none 0 0, .slice none 0 0, .slice none 0 0] 37)).alloc (.cells #[.int .i64 B.n, .slice none 0 0, .slice none 0 0, .slice none 0 0] 37)).heap.size = w.heap.size + 3) := ⟨a0, a1, a2, B3, sz3⟩
  clear a0 a1 a2 B3 sz3
  go_wp2_with (at_builtin; refine stand ?_)
  refine Stand.go ?_
  refine wpList_append_cells _ rfl _ _ 35 rfl (w.heap.size + 3) 4 ib (.bool false) 1 Tryz.underlying35 hib zb0 zb1 zb2 rfl _ _ _ rfl (World.ownsRow_nil _ _ _ _) al B.locked.length cl (bV B.locked) rfl (HC.out.1.below HA.out.2.2.2.1) (fun _ => rfl) (by unfold maxLen; omega) (by omega) (by rw [HA.out.2.2.2.2]; omega) ?_
  intro vL wL hownL hgL hnL hbL
  rw [Nat.zero_add] at hownL
  obtain ⟨adL, cL, GL, rfl, hL, hkL⟩ := ownBools_of (V := fun i => B.locked.getD i false) hownL
  have HT1 : Hid (0 < B.locked.length → TightG wL GL 4 B.locked.length cL) := fun p => tight_of hownL (hkL p)
  have bA := HA.out.2.2.2.2
  have bAL : Below (((w.alloc (.cells #[.int .i64 B.n, .slice ao B.orders.length co, .slice al B.locked.length cl, .slice ac B.occ.length cc] 37)).alloc (.cells #[.int .i64 0, .slice none 0 0, .slice none 0 0, .slice none 0 0] 37)).alloc (.cells #[.int .i64 B.n, .slice none 0 0, .slice none 0 0, .slice none 0 0] 37)).heap.size (((w.alloc (.cells #[.int .i64 B.n, .slice ao B.orders.length co, .slice al B.locked.length cl, .slice ac B.occ.length cc] 37)).alloc (.cells #[.int .i64 0, .slice none 0 0, .slice none 0 0, .slice none 0 0] 37)).alloc (.cells #[.int .i64 B.n, .slice none 0 0, .slice none 0 0, .slice none 0 0] 37)) wL := grown_below hgL (fun g hg => by cases hg) (Nat.le_refl _)
  have x0 : wL.heap[w.heap.size]? = some (.cells #[.int .i64 B.n, .slice ao B.orders.length co, .slice al B.locked.length cl, .slice ac B.occ.length cc] 37 (0, 0)) := (bAL.block _ (by omega)).trans HA.out.1
  have x1 : wL.heap[w.heap.size + 1]? = some (.cells #[.int .i64 0, .slice none 0 0, .slice none 0 0, .slice none 0 0] 37 (0, 0)) := (bAL.block _ (by omega)).trans HA.out.2.1
  have x2 : wL.heap[w.heap.size + 1 + 1]? = some (.cells #[.int .i64 B.n, .slice none 0 0, .slice none 0 0, .slice none 0 0] 37 (0, 0)) := (bAL.block _ (by omega)).trans HA.out.2.2.1
  have bL : Below w.heap.size w wL := below_trans HA.out.2.2.2.1 HA.out.2.2.2.1.size bAL
  have zL : w.heap.size + 3 ≤ wL.heap.size := by have := bAL.size; omega
  have HL : Hid (OwnBools wL (w.heap.size + 3) adL B.locked.length (fun i => B.locked.getD i false) GL ∧ wL.heap[w.heap.size]? = some (.cells #[.int .i64 B.n, .slice ao B.orders.length co, .slice al B.locked.length cl, .slice ac B.occ.length cc] 37 (0, 0)) ∧ wL.heap[w.heap.size + 1]? = some (.cells #[.int .i64 0, .slice none 0 0, .slice none 0 0, .slice none 0 0] 37 (0, 0)) ∧ wL.heap[w.heap.size + 1 + 1]? = some (.cells #[.int .i64 B.n, .slice none 0 0, .slice none 0 0, .slice none 0 0] 37 (0, 0)) ∧ Below w.heap.size w wL) := ⟨hL, x0, x1, x2, bL⟩
  obtain ⟨m0, m1, m2, m3⟩ := box_cells x0
  obtain ⟨o0, o1, o2, o3⟩ := box_cells x2
  have fz : ∀ i, wL.frozen? ⟨w.heap.size + 1 + 1, i, none⟩ = false := fun i => frozen_of_box x2
  have fz2 := fz 2
  clear hownL hgL hnL hbL hL hkL bA bAL x0 x1 x2 bL HA fz
  go_wp2_with (at_builtin; refine stand ?_)
  refine Stand.go ?_
  have SL : Below w.heap.size w (wL.setCell ⟨w.heap.size + 1 + 1, 2, none⟩ (.slice adL B.locked.length cL)) := below_set HL.out.2.2.2.2 _ _ (by omega) _
  have szL : (wL.setCell ⟨w.heap.size + 1 + 1, 2, none⟩ (.slice adL B.locked.length cL)).heap.size = wL.heap.size := by simp [World.setCell]
  refine wpList_append_cells _ rfl _ _ 35 rfl (w.heap.size + 3) 4 ib (.bool false) 1 Tryz.underlying35 hib zb0 zb1 zb2 rfl _ _ _ rfl (World.ownsRow_nil _ _ _ _) ac B.occ.length cc (bV B.occ) rfl (HC.out.2.below SL) (fun _ => rfl) (by unfold maxLen; omega) (by omega) (by rw [szL]; exact zL) ?_
  intro vC wC hownC hgC hnC hbC
  rw [Nat.zero_add] at hownC
  obtain ⟨adC, cC, GC, rfl, hC, hkC⟩ := ownBools_of (V := fun i => B.occ.getD i false) hownC
  have bLC : Below (wL.setCell ⟨w.heap.size + 1 + 1, 2, none⟩ (.slice adL B.locked.length cL)).heap.size (wL.setCell ⟨w.heap.size + 1 + 1, 2, none⟩ (.slice adL B.locked.length cL)) wC := grown_below hgC (fun g hg => by cases hg) (Nat.le_refl _)
  have HT2 : Hid (0 < B.locked.length → TightG wC GL 4 B.locked.length cL) := fun p => ((HT1.out p).setCell (w.heap.size + 1 + 1) 2 _).of_block (bLC.block _ ((HT1.out p).setCell (w.heap.size + 1 + 1) 2 (.slice adL B.locked.length cL)).lt)
  clear HT1
  have hGC : 0 < B.occ.length → GC = wL.heap.size := fun p => by
    have e1 := hkC p
    rcases hbC with e | e
    · rw [e1] at e; cases e
    · rw [e1, szL] at e; exact Option.some.inj e
  have x1 : wC.heap[w.heap.size + 1]? = some (.cells #[.int .i64 0, .slice none 0 0, .slice none 0 0, .slice none 0 0] 37 (0, 0)) := (bLC.block _ (by rw [szL]; omega)).trans ((box_other (by omega) _).trans HL.out.2.2.1)
  have x2 : wC.heap[w.heap.size + 1 + 1]? = some (.cells #[.int .i64 B.n, .slice none 0 0, .slice adL B.locked.length cL, .slice none 0 0] 37 (0, 0)) := (bLC.block _ (by rw [szL]; omega)).trans ((box_set HL.out.2.2.2.1 _).trans rfl)
  have bC : Below w.heap.size w wC := below_trans SL SL.size bLC
  have hL2 : OwnBools wC (w.heap.size + 3) adL B.locked.length (fun i => B.locked.getD i false) GL := (HL.out.1.setOther (fun p => by have := HL.out.1.low p; show GL ≠ w.heap.size + 1 + 1; omega) _).below bLC
  have zC : wL.heap.size ≤ wC.heap.size := by have := bLC.size; omega
  have hGL : 0 < B.locked.length → GL < wL.heap.size := fun p => (HL.out.1.row p).lt
  have HD : Hid (OwnBools wC (w.heap.size + 3) adL B.locked.length (fun i => B.locked.getD i false) GL ∧ OwnBools wC (w.heap.size + 3) adC B.occ.length (fun i => B.occ.getD i false) GC ∧ (0 < B.locked.length → GL < wC.heap.size) ∧ (0 < B.occ.length → GC < wC.heap.size) ∧ (0 < B.locked.length → 0 < B.occ.length → GL ≠ GC) ∧ wC.heap[w.heap.size + 1]? = some (.cells #[.int .i64 0, .slice none 0 0, .slice none 0 0, .slice none 0 0] 37 (0, 0)) ∧ wC.heap[w.heap.size + 1 + 1]? = some (.cells #[.int .i64 B.n, .slice none 0 0, .slice adL B.locked.length cL, .slice none 0 0] 37 (0, 0)) ∧ Below w.heap.size w wC) :=
    ⟨hL2, hC, fun p => by have := hGL p; omega, fun p => (hC.row p).lt, fun p q => by have := hGL p; have := hGC q; omega, x1, x2, bC⟩
  obtain ⟨n0, n1, n2, n3⟩ : wC.cell? ⟨w.heap.size, 0, none⟩ = some (.int .i64 B.n) ∧ wC.cell? ⟨w.heap.size, 1, none⟩ = some (.slice ao B.orders.length co) ∧ wC.cell? ⟨w.heap.size, 2, none⟩ = some (.slice al B.locked.length cl) ∧ wC.cell? ⟨w.heap.size, 3, none⟩ = some (.slice ac B.occ.length cc) := box_cells ((bLC.block _ (by rw [szL]; omega)).trans ((box_other (by omega) _).trans HL.out.2.1))
  obtain ⟨o0, o1, o2, o3⟩ := box_cells x2
  have fz3 : wC.frozen? ⟨w.heap.size + 1 + 1, 3, none⟩ = false := frozen_of_box x2
  clear hownC hgC hnC hbC hC hkC bLC hGC x1 x2 bC hL2 hGL HL SL szL m0 m1 m2 m3 fz2
  go_wp2
  have SC : Below w.heap.size w (wC.setCell ⟨w.heap.size + 1 + 1, 3, none⟩ (.slice adC B.occ.length cC)) := below_set HD.out.2.2.2.2.2.2.2 _ _ (by omega) _
  obtain ⟨O, hO⟩ : ∃ O, O = B.orders.length := ⟨_, rfl⟩
  have HO : Hid (O = B.orders.length) := hO
  rw [← hO] at ho hs hd g' ⊢
  clear hO n0 n1 n2 n3 o0 o1 o2 o3 fz3
  go_loopw [25] (fun i wr => ∃ (k : Nat) (u : Value) (gs : Nat → Nat) (sa : Nat → Option Addr) (sc : Nat → Nat), k ≤ O ∧ i = .int .i64 k ∧ Below w.heap.size w wr ∧ wr.heap[w.heap.size + 1]? = some (.cells #[.int .i64 0, .slice none 0 0, .slice none 0 0, .slice none 0 0] 37 (0, 0)) ∧ wr.heap[w.heap.size + 1 + 1]? = some (.cells #[.int .i64 B.n, u, .slice adL B.locked.length cL, .slice adC B.occ.length cC] 37 (0, 0)) ∧ RowOrds wr wC.heap.size u k (bX B) gs sa sc ∧ OwnBools wr (w.heap.size + 3) adL B.locked.length (fun i => B.locked.getD i false) GL ∧ OwnBools wr (w.heap.size + 3) adC B.occ.length (fun i => B.occ.getD i false) GC ∧ wC.heap.size ≤ wr.heap.size ∧ (0 < B.locked.length → TightG wr GL 4 B.locked.length cL) ∧ (∀ i, i < k → 0 < (bX B i).secs.length → TightG wr (gs i) 3 (bX B i).secs.length (sc i))) (fun i _ => O - (intOf i).toNat)
  case atStart =>
    obtain ⟨q1, q2, _, _, _, q3, q4, _⟩ := HD.out
    exact ⟨0, _, fun _ => 0, fun _ => none, fun _ => 0, Nat.zero_le _, rfl, SC, (box_other (by omega) _).trans q3, (box_set q4 _).trans rfl, RowOrds.start _ _ _ _ _ _, q1.setOther (fun p => by have := q1.low p; show GL ≠ w.heap.size + 1 + 1; omega) _, q2.setOther (fun p => by have := q2.low p; show GC ≠ w.heap.size + 1 + 1; omega) _, by simp [World.setCell], fun p => (HT2.out p).setCell _ _ _, fun i hi => absurd hi (by omega)⟩
  case round =>
    obtain ⟨k, u, gs, sa, sc, hk, rfl, hb, r1, r2, hrow, hL, hC, hz, hT1, hT2⟩ := hrel
    clear HT2
    have HT : Hid ((0 < B.locked.length → TightG wr GL 4 B.locked.length cL) ∧ (∀ i, i < k → 0 < (bX B i).secs.length → TightG wr (gs i) 3 (bX B i).secs.length (sc i))) := ⟨hT1, hT2⟩
    clear hT1 hT2
    by_cases hlt : k < O
    · obtain rfl := hd (by omega)
      obtain ⟨sk, ck, q⟩ := g' k hlt
      have hsk := hs k hlt
      obtain ⟨x0, x1, x2, x3, x4⟩ := q.below hb
      have HX : Hid (Cells wr sk (bX B k).secs.length (iV (bX B k).secs)) := x4
      have HR : Hid (RowOrds wr wC.heap.size u k (bX B) gs sa sc ∧ OwnBools wr (w.heap.size + 3) adL B.locked.length (fun i => B.locked.getD i false) GL ∧ OwnBools wr (w.heap.size + 3) adC B.occ.length (fun i => B.occ.getD i false) GC ∧ wr.heap[w.heap.size + 1]? = some (.cells #[.int .i64 0, .slice none 0 0, .slice none 0 0, .slice none 0 0] 37 (0, 0)) ∧ wr.heap[w.heap.size + 1 + 1]? = some (.cells #[.int .i64 B.n, u, .slice adL B.locked.length cL, .slice adC B.occ.length cC] 37 (0, 0)) ∧ Below w.heap.size w wr) := ⟨hrow, hL, hC, r1, r2, hb⟩
      have z3 : w.heap.size + 3 ≤ wr.heap.size := by omega
      clear q g' hs hd x4 hrow hL hC r1 r2 hb
      go_wp2_with (at_builtin; refine stand ?_)
      refine Stand.go ?_
      have S3 : Below wr.heap.size wr (((wr.alloc (.cells #[.string (bX B k).holder, .int .i64 (bX B k).kind, .slice sk (bX B k).secs.length ck, .int .i64 (bX B k).state] 41)).alloc (.cells #[.string (bX B k).holder, .int .i64 (bX B k).kind, .slice sk (bX B k).secs.length ck, .int .i64 (bX B k).state] 41)).alloc (.cells #[] 3)) := below3 _ _ _ _
      have sz3 : (((wr.alloc (.cells #[.string (bX B k).holder, .int .i64 (bX B k).kind, .slice sk (bX B k).secs.length ck, .int .i64 (bX B k).state] 41)).alloc (.cells #[.string (bX B k).holder, .int .i64 (bX B k).kind, .slice sk (bX B k).secs.length ck, .int .i64 (bX B k).state] 41)).alloc (.cells #[] 3)).heap.size = wr.heap.size + 3 := by simp
      have ow : (((wr.alloc (.cells #[.string (bX B k).holder, .int .i64 (bX B k).kind, .slice sk (bX B k).secs.length ck, .int .i64 (bX B k).state] 41)).alloc (.cells #[.string (bX B k).holder, .int .i64 (bX B k).kind, .slice sk (bX B k).secs.length ck, .int .i64 (bX B k).state] 41)).alloc (.cells #[] 3)).ownsRow wr.heap.size 3 1 (.slice (some ⟨wr.heap.size + 1 + 1, 0, none⟩) 0 0) 0 [] := by
        have := World.ownsRow_lit (e := 3) (base := wr.heap.size) (size := 1) ((wr.alloc (.cells #[.string (bX B k).holder, .int .i64 (bX B k).kind, .slice sk (bX B k).secs.length ck, .int .i64 (bX B k).state] 41)).alloc (.cells #[.string (bX B k).holder, .int .i64 (bX B k).kind, .slice sk (bX B k).secs.length ck, .int .i64 (bX B k).state] 41)) #[] 0 (by simp; omega) (by unfold maxLen; omega) rfl
        simpa using this
      refine wpList_append_cells _ rfl _ _ 30 rfl wr.heap.size 3 ii (.int .i64 0) 8 Tryz.underlying30 hii zi0 zi1 zi2 rfl _ _ _ rfl ow sk (bX B k).secs.length ck (iV (bX B k).secs) rfl (HX.out.below S3) (fun _ => rfl) (by unfold maxLen; omega) (by omega) (by rw [sz3]; omega) ?_
      intro vS wS hownS hgS hnS hbS
      rw [Nat.zero_add] at hownS
      obtain ⟨adS, cS, GS, rfl, hpS⟩ := pre_of_owns (size := 1) (V := iV (bX B k).secs) (by rw [Nat.mul_one]; exact hownS)
      rw [Nat.mul_one] at hpS
      have bS : Below (wr.heap.size + 2) (((wr.alloc (.cells #[.string (bX B k).holder, .int .i64 (bX B k).kind, .slice sk (bX B k).secs.length ck, .int .i64 (bX B k).state] 41)).alloc (.cells #[.string (bX B k).holder, .int .i64 (bX B k).kind, .slice sk (bX B k).secs.length ck, .int .i64 (bX B k).state] 41)).alloc (.cells #[] 3)) wS := grown_below hgS (fun g hg => by have h2 : wr.heap.size + 1 + 1 = g := Option.some.inj hg; omega) (by rw [sz3]; omega)
      have y6 : wS.heap[wr.heap.size + 1]? = some (.cells #[.string (bX B k).holder, .int .i64 (bX B k).kind, .slice sk (bX B k).secs.length ck, .int .i64 (bX B k).state] 41 (0, 0)) := (bS.block _ (by omega)).trans (by
        rw [Deep.blk_alloc_lt _ _ _ (by simp)]
        have := Deep.blk_alloc_new (wr.alloc (.cells #[.string (bX B k).holder, .int .i64 (bX B k).kind, .slice sk (bX B k).secs.length ck, .int .i64 (bX B k).state] 41)) (.cells #[.string (bX B k).holder, .int .i64 (bX B k).kind, .slice sk (bX B k).secs.length ck, .int .i64 (bX B k).state] 41)
        simpa using this)
      have bwS : Below wr.heap.size wr wS := S3.trans (bS.mono (by omega))
      have zS : wr.heap.size + 3 ≤ wS.heap.size := by have := bS.size; omega
      have hGS : 0 < (bX B k).secs.length → adS = some ⟨GS, 0, none⟩ ∧ Pre wS GS 3 (bX B k).secs.length (iV (bX B k).secs) ∧ wr.heap.size + 2 ≤ GS := fun p => by
        refine ⟨(hpS p).1, (hpS p).2.2.1, ?_⟩
        rcases hbS with e | e
        · rw [(hpS p).2.2.2] at e
          have h2 : GS = wr.heap.size + 1 + 1 := Option.some.inj e
          omega
        · rw [(hpS p).2.2.2, sz3] at e
          have := Option.some.inj e
          omega
      have HTS : Hid (0 < (bX B k).secs.length → TightG wS GS 3 (bX B k).secs.length cS) := fun p => tight_of hownS (hpS p).2.2.2
      have y2 := (bwS.block _ (by omega)).trans HR.out.2.2.2.2.1
      have HY : Hid ((0 < (bX B k).secs.length → adS = some ⟨GS, 0, none⟩ ∧ Pre wS GS 3 (bX B k).secs.length (iV (bX B k).secs) ∧ wr.heap.size + 2 ≤ GS) ∧ Below wr.heap.size wr wS ∧ wS.heap[wr.heap.size + 1]? = some (.cells #[.string (bX B k).holder, .int .i64 (bX B k).kind, .slice sk (bX B k).secs.length ck, .int .i64 (bX B k).state] 41 (0, 0)) ∧ wS.heap[w.heap.size + 1 + 1]? = some (.cells #[.int .i64 B.n, u, .slice adL B.locked.length cL, .slice adC B.occ.length cC] 37 (0, 0))) := ⟨hGS, bwS, y6, y2⟩
      obtain ⟨p0, p1, p2, p3⟩ := box_cells y6
      obtain ⟨o0, o1, o2, o3⟩ := box_cells y2
      have f6 : wS.frozen? ⟨wr.heap.size + 1, 2, none⟩ = false := frozen_of_box y6
      clear hownS hgS hnS hbS hpS bS y6 bwS hGS y2 S3 sz3 ow HX x0 x1 x2 x3
      go_wp2_with (at_builtin; refine stand ?_)
      refine Stand.go ?_
      have S4 : Below wr.heap.size wr ((wS.setCell ⟨wr.heap.size + 1, 2, none⟩ (.slice adS (bX B k).secs.length cS)).alloc (.cells #[.string (bX B k).holder, .int .i64 (bX B k).kind, .slice adS (bX B k).secs.length cS, .int .i64 (bX B k).state] 41)) := ((below_set HY.out.2.1 _ _ (by omega) _).alloc (by simp [World.setCell]; omega) _)
      have sz4 : (wS.setCell ⟨wr.heap.size + 1, 2, none⟩ (.slice adS (bX B k).secs.length cS)).heap.size = wS.heap.size := by simp [World.setCell]
      have R4 := HR.out.1.below S4
      have n4 : ∀ j u', (cellsOf (bX B k) adS cS)[j]? = some u' → ((wS.setCell ⟨wr.heap.size + 1, 2, none⟩ (.slice adS (bX B k).secs.length cS)).alloc (.cells #[.string (bX B k).holder, .int .i64 (bX B k).kind, .slice adS (bX B k).secs.length cS, .int .i64 (bX B k).state] 41)).cell? ((⟨wS.heap.size, 0, none⟩ : Addr).add j) = some u' := by
        have hn := Deep.blk_alloc_new (wS.setCell ⟨wr.heap.size + 1, 2, none⟩ (.slice adS (bX B k).secs.length cS)) (.cells #[.string (bX B k).holder, .int .i64 (bX B k).kind, .slice adS (bX B k).secs.length cS, .int .i64 (bX B k).state] 41)
        rw [sz4] at hn
        intro j u' hu
        rw [add0]
        refine cell_of_box hn ?_
        rw [← Array.getElem?_toList]
        exact hu
      refine wpList_append_own_at _ rfl _ _ 34 rfl wC.heap.size 41 io _ 4 56 Tryz.underlying34 hio zo0 zo1 zo2 rfl (by decide) u k (flat (bX B) sa sc k) rfl R4.row ⟨wS.heap.size, 0, none⟩ 1 1 (cellsOf (bX B k) adS cS) rfl rfl n4 ?_ (by unfold maxLen; omega) (by omega) (by simp [World.setCell]; omega) ?_
      · intro x hx
        simp only [cellsOf, List.mem_cons, List.not_mem_nil, or_false] at hx
        rcases hx with rfl | rfl | rfl | rfl <;> rfl
      intro vU wU hownU hgU _ hbU
      have push := RowOrds.push R4 (bX B k) GS adS cS (fun p => by
        obtain ⟨t1, t2, t3⟩ := HY.out.1 p
        refine ⟨t1, (t2.setOther (a := ⟨wr.heap.size + 1, 2, none⟩) (by show GS ≠ wr.heap.size + 1; omega) _).of_block (Deep.blk_alloc_lt _ _ _ (by rw [sz4]; exact t2.lt)), by omega, fun e => ?_, fun i hi hp => ?_⟩
        · have := (owns_lt HR.out.1.row e).2; omega
        · have := (HR.out.1.sec i hi hp).2.1.lt; omega) hownU hgU hbU
      have HTU : Hid ((0 < B.locked.length → TightG wU GL 4 B.locked.length cL) ∧ (∀ i, i < k + 1 → 0 < (bX B i).secs.length → TightG wU (put1 gs k GS i) 3 (bX B i).secs.length (put1 sc k cS i))) := by
        have zz4 : ((wS.setCell ⟨wr.heap.size + 1, 2, none⟩ (.slice adS (bX B k).secs.length cS)).alloc (.cells #[.string (bX B k).holder, .int .i64 (bX B k).kind, .slice adS (bX B k).secs.length cS, .int .i64 (bX B k).state] 41)).heap.size = wS.heap.size + 1 := by simp [World.setCell]
        have bU0 : Below wC.heap.size ((wS.setCell ⟨wr.heap.size + 1, 2, none⟩ (.slice adS (bX B k).secs.length cS)).alloc (.cells #[.string (bX B k).holder, .int .i64 (bX B k).kind, .slice adS (bX B k).secs.length cS, .int .i64 (bX B k).state] 41)) wU := grown_below hgU (fun g hg => (owns_lt R4.row hg).1) (by rw [zz4]; omega)
        refine ⟨fun p => ?_, fun i hi hp => ?_⟩
        · have q := HT.out.1 p
          exact (q.of_block (S4.block _ q.lt)).of_block (bU0.block _ (HD.out.2.2.1 p))
        · by_cases e : i = k
          · subst e
            rw [put1_new, put1_new]
            have q := HTS.out hp
            have q2 := (q.setCell (wr.heap.size + 1) 2 (.slice adS (bX B i).secs.length cS))
            have q3 := q2.of_block (Deep.blk_alloc_lt _ (.cells #[.string (bX B i).holder, .int .i64 (bX B i).kind, .slice adS (bX B i).secs.length cS, .int .i64 (bX B i).state] 41) _ q2.lt)
            refine q3.of_block (hgU.block _ q3.lt (fun e => ?_))
            have := (owns_lt HR.out.1.row e.symm).2
            have := (HY.out.1 hp).2.2
            omega
          · have hi' : i < k := by omega
            rw [put1_old _ _ _ hi', put1_old _ _ _ hi']
            have q := HT.out.2 i hi' hp
            have q3 := q.of_block (S4.block _ q.lt)
            exact q3.of_block (hgU.block _ q3.lt (fun e => (HR.out.1.sec i hi' hp).2.2.2 e.symm))
      clear HT HTS
      rw [put1_same] at push
      obtain ⟨adU, cU, GU, rfl, -, -⟩ := push.own
      have z4 : ((wS.setCell ⟨wr.heap.size + 1, 2, none⟩ (.slice adS (bX B k).secs.length cS)).alloc (.cells #[.string (bX B k).holder, .int .i64 (bX B k).kind, .slice adS (bX B k).secs.length cS, .int .i64 (bX B k).state] 41)).heap.size = wS.heap.size + 1 := by simp [World.setCell]
      have bU : Below wC.heap.size ((wS.setCell ⟨wr.heap.size + 1, 2, none⟩ (.slice adS (bX B k).secs.length cS)).alloc (.cells #[.string (bX B k).holder, .int .i64 (bX B k).kind, .slice adS (bX B k).secs.length cS, .int .i64 (bX B k).state] 41)) wU := grown_below hgU (fun g hg => (owns_lt R4.row hg).1) (by rw [z4]; omega)
      have y1U : wU.heap[w.heap.size + 1]? = some (.cells #[.int .i64 0, .slice none 0 0, .slice none 0 0, .slice none 0 0] 37 (0, 0)) := (bU.block _ (by omega)).trans ((S4.block _ (by omega)).trans HR.out.2.2.2.1)
      have y2U : wU.heap[w.heap.size + 1 + 1]? = some (.cells #[.int .i64 B.n, u, .slice adL B.locked.length cL, .slice adC B.occ.length cC] 37 (0, 0)) := (bU.block _ (by omega)).trans ((S4.block _ (by omega)).trans HR.out.2.2.2.2.1)
      have bwU : Below w.heap.size w wU := (below_trans HR.out.2.2.2.2.2 HR.out.2.2.2.2.2.size S4).trans (bU.mono (by omega))
      have HU : Hid (RowOrds wU wC.heap.size (.slice adU (k + 1) cU) (k + 1) (bX B) (put1 gs k GS) (put1 sa k adS) (put1 sc k cS) ∧ wU.heap[w.heap.size + 1]? = some (.cells #[.int .i64 0, .slice none 0 0, .slice none 0 0, .slice none 0 0] 37 (0, 0)) ∧ wU.heap[w.heap.size + 1 + 1]? = some (.cells #[.int .i64 B.n, u, .slice adL B.locked.length cL, .slice adC B.occ.length cC] 37 (0, 0)) ∧ Below w.heap.size w wU ∧ OwnBools wU (w.heap.size + 3) adL B.locked.length (fun i => B.locked.getD i false) GL ∧ OwnBools wU (w.heap.size + 3) adC B.occ.length (fun i => B.occ.getD i false) GC ∧ wC.heap.size ≤ wU.heap.size) :=
        ⟨push, y1U, y2U, bwU, (HR.out.2.1.below S4).ofBlock (fun p => bU.block _ (HD.out.2.2.1 p)), (HR.out.2.2.1.below S4).ofBlock (fun p => bU.block _ (HD.out.2.2.2.1 p)), by have := bU.size; omega⟩
      have oU : wU.cell? ⟨w.heap.size + 1 + 1, 1, none⟩ = some u := cell_of_box y2U rfl
      have fU : wU.frozen? ⟨w.heap.size + 1 + 1, 1, none⟩ = false := frozen_of_box y2U
      clear push hownU hgU hbU z4 bU y1U y2U bwU HY HR S4 sz4 R4 n4 p0 p1 p2 p3 o0 o1 o2 o3 f6
      go_wp2
      go_roundw
      case rel =>
        obtain ⟨t1, t2, t3, t4, t5, t6, t7⟩ := HU.out
        exact ⟨k + 1, _, put1 gs k GS, put1 sa k adS, put1 sc k cS, by omega, by go_num, below_set t4 _ _ (by omega) _, (box_other (by omega) _).trans t2, (box_set t3 _).trans rfl, t1.setLow _ _ (by omega) _, t5.setOther (fun p => by have := t5.low p; show GL ≠ w.heap.size + 1 + 1; omega) _, t6.setOther (fun p => by have := t6.low p; show GC ≠ w.heap.size + 1 + 1; omega) _, by simp [World.setCell]; omega, fun p => (HTU.out.1 p).setCell _ _ _, fun i hi hp => (HTU.out.2 i hi hp).setCell _ _ _⟩
      case measure => simp [intOf]; omega
    · obtain rfl : k = O := by omega
      have HR : Hid (RowOrds wr wC.heap.size u k (bX B) gs sa sc ∧ OwnBools wr (w.heap.size + 3) adL B.locked.length (fun i => B.locked.getD i false) GL ∧ OwnBools wr (w.heap.size + 3) adC B.occ.length (fun i => B.occ.getD i false) GC ∧ Below w.heap.size w wr) := ⟨hrow, hL, hC, hb⟩
      obtain ⟨adU, cU, GU, rfl, -, -⟩ := hrow.own
      obtain ⟨o0, o1, o2, o3⟩ := box_cells r2
      obtain ⟨q0, q1, q2, q3⟩ := box_cells r1
      have f0 : wr.frozen? ⟨w.heap.size + 1, 0, none⟩ = false := frozen_of_box r1
      have f1 : wr.frozen? ⟨w.heap.size + 1, 1, none⟩ = false := frozen_of_box r1
      have f2 : wr.frozen? ⟨w.heap.size + 1, 2, none⟩ = false := frozen_of_box r1
      have f3 : wr.frozen? ⟨w.heap.size + 1, 3, none⟩ = false := frozen_of_box r1
      clear g' hs hd hrow hL hC hb r1 r2
      go_wp2
      refine bodyPost_ret (v := .agg #[.int .i64 B.n, .slice adU k cU, .slice adL B.locked.length cL, .slice adC B.occ.length cC]) (by simp [results, Tryz.results23, go_sem, q0, q1, q2, q3]) rfl ?_
      obtain ⟨G, hRB⟩ : ∃ G, RowBook ((((wr.setCell ⟨w.heap.size + 1, 0, none⟩ (.int .i64 B.n)).setCell ⟨w.heap.size + 1, 1, none⟩ (.slice adU k cU)).setCell ⟨w.heap.size + 1, 2, none⟩ (.slice adL B.locked.length cL)).setCell ⟨w.heap.size + 1, 3, none⟩ (.slice adC B.occ.length cC)) w.heap.size (.agg #[.int .i64 B.n, .slice adU k cU, .slice adL B.locked.length cL, .slice adC B.occ.length cC]) B ⟨G, gs, sa, sc, GL, GC⟩ := by
        obtain ⟨t1, t2, t3, t4⟩ := HR.out
        rw [HO.out] at t1 ⊢
        refine rowBook_mk' (H := wC.heap.size) (GL := GL) (GC := GC) (gs := gs) (sa := sa) (sc := sc) ?_ (by omega) ?_ ?_ (HD.out.2.2.1) (HD.out.2.2.2.1) (HD.out.2.2.2.2.1)
        · repeat (refine RowOrds.setLow ?_ _ _ (by omega) _)
          exact t1
        · refine OwnBools.mono (lo := w.heap.size + 3) ?_ (by omega)
          repeat (refine OwnBools.setOther ?_ (fun p => by have := t2.low p; show GL ≠ w.heap.size + 1; omega) _)
          exact t2
        · refine OwnBools.mono (lo := w.heap.size + 3) ?_ (by omega)
          repeat (refine OwnBools.setOther ?_ (fun p => by have := t3.low p; show GC ≠ w.heap.size + 1; omega) _)
          exact t3
      have hk0 := HO.out
      subst hk0
      refine ⟨adU, adL, adC, cU, cL, cC, ⟨G, gs, sa, sc, GL, GC⟩, rfl, hRB, ⟨fun p => ?_, fun i hi hp => ?_⟩, ?_⟩
      · exact ((((HT.out.1 p).setCell _ _ _).setCell _ _ _).setCell _ _ _).setCell _ _ _
      · exact ((((HT.out.2 i hi hp).setCell _ _ _).setCell _ _ _).setCell _ _ _).setCell _ _ _
      · have t4 := HR.out.2.2.2
        repeat (refine below_set ?_ _ _ (by omega) _)
        exact t4

end Go.Proofs.YteifekoiognhmaaGreatDoor

/-
  Books that own their memory: an order's cell set, a section more, a flag more, another number of sections. Mine, by template (wip/gen.py).
-/
namespace Go.Proofs.YteifekoiognhmaaGreatDoor
open Go.RowKit

def setOrd (B : Bk) (i : Nat) (x : Ord) : Bk := ⟨B.n, B.orders.set i x, B.locked, B.occ⟩
def addLock (B : Bk) (r : Bool) : Bk := ⟨B.n, B.orders, B.locked ++ [r], B.occ⟩
def setN (B : Bk) (n : Int) : Bk := ⟨n, B.orders, B.locked, B.occ⟩
theorem setOrd_len (B : Bk) (i : Nat) (x : Ord) : (setOrd B i x).orders.length = B.orders.length := by simp [setOrd]
theorem bX_setOrd (B : Bk) (i : Nat) (x : Ord) (hi : i < B.orders.length) (j : Nat) : bX (setOrd B i x) j = if j = i then x else bX B j := getD_set _ _ _ _ _ hi

theorem owns_of_tight {w : World} {lo g : Nat} {t : TypeId} {n cap : Nat} {f : Nat → Value} (hT : TightG w g t n cap) (hP : Pre w g t n f) (hlo : lo ≤ g) : w.ownsRow lo t 1 (.slice (some ⟨g, 0, none⟩) n cap) n ((List.range n).map f) := by
  obtain ⟨cur, h1, h2, h3, h4⟩ := hT
  obtain ⟨c, g1, g2, g3⟩ := hP
  have e : c = cur := by
    have := g1.symm.trans h1
    simpa using this
  subst e
  refine ⟨by simp, Or.inr ⟨g, cap, c, rfl, hlo, h1, h2, h3, by omega, ?_⟩⟩
  refine List.ext_getElem? (fun i => ?_)
  by_cases hi : i < n
  · have := g3 i hi
    rw [← Array.getElem?_toList] at this
    rw [List.getElem?_take, if_pos (by omega), this]
    simp [hi]
  · rw [List.getElem?_take, if_neg (by omega)]
    simp [hi]

theorem OwnOrds.put {w : World} {lo : Nat} {ad : Option Addr} {n : Nat} {X : Nat → Ord} {G : Nat} {gs : Nat → Nat} {sa : Nat → Option Addr} {sc : Nat → Nat} (h : OwnOrds w lo ad n X G gs sa sc) {i : Nat} (hi : i < n) {j : Nat} (hj : j < 4) (u : Value) (x : Ord) (hs : x.secs = (X i).secs) (hc : ∀ r, r < 4 → ordCell x (sa i) (sc i) r = if r = j then u else ordCell (X i) (sa i) (sc i) r) :
    OwnOrds (w.setCell ⟨G, i * 4 + j, none⟩ u) lo ad n (fun q => if q = i then x else X q) G gs sa sc := by
  have hs' : ∀ q, (if q = i then x else X q).secs = (X q).secs := fun q => by
    by_cases e : q = i
    · subst e; rw [if_pos rfl]; exact hs
    · rw [if_neg e]
  refine ⟨h.head, fun hp => ((h.row hp).set _ _).congr (fun q hq => ?_), h.low, fun q hq hp => ?_, fun q hq hp => ?_, fun q k hq hk hp hp' => ?_⟩
  · show (if q = i * 4 + j then u else ordCell (X (q / 4)) (sa (q / 4)) (sc (q / 4)) (q % 4)) = ordCell (if q / 4 = i then x else X (q / 4)) (sa (q / 4)) (sc (q / 4)) (q % 4)
    by_cases e : q / 4 = i
    · rw [if_pos e, e, hc (q % 4) (by omega)]
      by_cases e2 : q % 4 = j
      · rw [if_pos (by omega), if_pos e2]
      · rw [if_neg (by omega), if_neg e2]
    · rw [if_neg (by omega), if_neg e]
  · simp only [hs'] at hp ⊢
    exact ⟨(h.sec q hq hp).1, (h.sec q hq hp).2.setOther (h.slow q hq hp).2 _⟩
  · simp only [hs'] at hp
    exact h.slow q hq hp
  · simp only [hs'] at hp hp'
    exact h.inj q k hq hk hp hp'

theorem OwnBook.putOrd {w : World} {lo : Nat} {v : Value} {B : Bk} {K : Blk} (h : OwnBook w lo v B K) {i : Nat} (hi : i < B.orders.length) {j : Nat} (hj : j < 4) (u : Value) (x : Ord) (hs : x.secs = (bX B i).secs) (hc : ∀ r, r < 4 → ordCell x (K.sa i) (K.sc i) r = if r = j then u else ordCell (bX B i) (K.sa i) (K.sc i) r) :
    OwnBook (w.setCell ⟨K.G, i * 4 + j, none⟩ u) lo v (setOrd B i x) K := by
  obtain ⟨⟨ao, co, al, cl, ac, cc, e, h1, h2, h3⟩, q1, q2, q3, q4, q5⟩ := h
  have hn : 0 < B.orders.length := by omega
  have hl := setOrd_len B i x
  have ss : ∀ j, ((setOrd B i x).orders.getD j Ord.zero).secs = (B.orders.getD j Ord.zero).secs := fun j => by
    have e := bX_setOrd B i x hi j
    unfold bX at e
    rw [e]
    by_cases ej : j = i
    · subst ej; rw [if_pos rfl]; exact hs
    · rw [if_neg ej]
  refine ⟨⟨ao, co, al, cl, ac, cc, by rw [hl]; exact e, ?_, h2.setOther (fun hp => q1 hn hp) _, h3.setOther (fun hp => q2 hn hp) _⟩, fun a b => q1 (by rw [hl] at a; exact a) b, fun a b => q2 (by rw [hl] at a; exact a) b, q3, fun a j hj hp => q4 a j (by rw [hl] at hj; exact hj) (by rw [ss] at hp; exact hp), fun a j hj hp => q5 a j (by rw [hl] at hj; exact hj) (by rw [ss] at hp; exact hp)⟩
  rw [hl]
  exact (h1.put hi hj u x hs hc).congr (fun j _ => (bX_setOrd B i x hi j).symm)

theorem OwnBook.setN {w : World} {lo : Nat} {B : Bk} {K : Blk} {s : Sl} (h : OwnBook w lo (bookV B s) B K) (n : Int) : OwnBook w lo (bookV (setN B n) s) (setN B n) K := by
  obtain ⟨⟨ao, co, al, cl, ac, cc, e, h1, h2, h3⟩, q1, q2, q3, q4, q5⟩ := h
  unfold bookV at e
  simp only [Value.agg.injEq, Array.mk.injEq, List.cons.injEq, Value.slice.injEq, and_true, true_and] at e
  obtain ⟨⟨e1, e2⟩, ⟨e3, e4⟩, e5, e6⟩ := e
  exact ⟨⟨ao, co, al, cl, ac, cc, by unfold bookV; rw [e1, e2, e3, e4, e5, e6], h1, h2, h3⟩, q1, q2, q3, q4, q5⟩

/-- A flag is appended. -/
theorem OwnBook.pushLock {w wU : World} {lo : Nat} {B : Bk} {K : Blk} {s : Sl} {vU : Value} {r : Bool} (h : OwnBook w lo (bookV B s) B K) (hl : 0 < B.locked.length)
    (h2 : wU.ownsRow lo 4 1 vU (B.locked.length + 1) ((List.range B.locked.length).map (fun i => Value.bool (B.locked.getD i false)) ++ [.bool r])) (hg : w.grownBy wU (some K.L)) (hk : vU.ownBlock = some K.L ∨ vU.ownBlock = some w.heap.size) :
    ∃ aU cU g, vU = .slice aU (B.locked.length + 1) cU ∧ OwnBook wU lo (bookV (addLock B r) ⟨s.ao, s.co, aU, cU, s.ac, s.cc⟩) (addLock B r) ⟨K.G, K.gs, K.sa, K.sc, g, K.C⟩ ∧ (g = K.L ∨ g = w.heap.size) := by
  obtain ⟨⟨ao, co, al, cl, ac, cc, e, h1, hL, h3⟩, q1, q2, q3, q4, q5⟩ := h
  unfold bookV at e
  simp only [Value.agg.injEq, Array.mk.injEq, List.cons.injEq, Value.slice.injEq, and_true, true_and] at e
  obtain ⟨⟨e1, e2⟩, ⟨e3, e4⟩, e5, e6⟩ := e
  have hf : Fr (fun x => x = K.L) w wU := ⟨hg.os, hg.tape, hg.output, hg.size, fun j hj hn => hg.block j hj (fun e => hn (Option.some.inj e))⟩
  have e7 : (List.range B.locked.length).map (fun i => Value.bool (B.locked.getD i false)) ++ [Value.bool r] = (List.range (B.locked.length + 1)).map (fun i => Value.bool ((B.locked ++ [r]).getD i false)) := by
    rw [List.range_succ, List.map_append]
    congr 1
    · refine List.map_congr_left (fun i hi => ?_)
      have hi' : i < B.locked.length := List.mem_range.1 hi
      simp [List.getD_eq_getElem?_getD, List.getElem?_append_left hi']
    · simp [List.getD_eq_getElem?_getD]
  rw [e7] at h2
  obtain ⟨aU, cU, g, rfl, hO, hgb⟩ := ownBools_of h2
  have hgk : g = K.L ∨ g = w.heap.size := by
    rw [hgb (by omega)] at hk
    rcases hk with e | e
    · exact Or.inl (Option.some.inj e)
    · exact Or.inr (Option.some.inj e)
  have hll : (B.locked ++ [r]).length = B.locked.length + 1 := by simp
  have hG : 0 < B.orders.length → K.G < w.heap.size := fun p => (h1.row p).lt
  have hS : ∀ i, i < B.orders.length → 0 < (B.orders.getD i Ord.zero).secs.length → K.gs i < w.heap.size := fun i hi hp => (h1.sec i hi hp).2.lt
  have hC : 0 < B.occ.length → K.C < w.heap.size := fun p => (h3.row p).lt
  refine ⟨aU, cU, g, rfl, ⟨⟨ao, co, aU, cU, ac, cc, by unfold bookV; rw [e1, e2, e5, e6], ?_, ?_, ?_⟩, fun a _ => ?_, q2, fun _ c => ?_, fun _ i hi hp => ?_, q5⟩, hgk⟩
  · exact h1.fr hf (fun x hx e => by
      rcases hx with ⟨hp, rfl⟩ | ⟨i, hi, hp, rfl⟩
      · exact q1 hp hl e.symm
      · exact q4 hl i hi hp e)
  · show OwnBools wU lo aU (B.locked ++ [r]).length _ g
    rw [hll]; exact hO
  · exact h3.ofBlock (fun p => hf.block _ (hC p) (fun e => q3 hl p e.symm))
  · rcases hgk with e | e
    · rw [show (⟨K.G, K.gs, K.sa, K.sc, g, K.C⟩ : Blk).L = g from rfl, e]; exact q1 a hl
    · have := hG a; show g ≠ K.G; omega
  · rcases hgk with e | e
    · rw [show (⟨K.G, K.gs, K.sa, K.sc, g, K.C⟩ : Blk).L = g from rfl, e]; exact q3 hl c
    · have := hC c; show g ≠ K.C; omega
  · rcases hgk with e | e
    · rw [show (⟨K.G, K.gs, K.sa, K.sc, g, K.C⟩ : Blk).L = g from rfl, e]; exact q4 hl i hi hp
    · have := hS i hi hp; show K.gs i ≠ g; omega

/-- One section more in order i: appended (wU), then stored. -/
theorem OwnBook.pushSec {w wU : World} {lo : Nat} {v : Value} {B : Bk} {K : Blk} {aU : Option Addr} {cU : Nat} {z : Int} (h : OwnBook w lo v B K) {i : Nat} (hi : i < B.orders.length) (hs : 0 < (bX B i).secs.length)
    (h2 : wU.ownsRow lo 3 1 (.slice aU ((bX B i).secs ++ [z]).length cU) ((bX B i).secs ++ [z]).length (((bX B i).secs ++ [z]).map (Value.int .i64))) (hg : w.grownBy wU (some (K.gs i))) (hk : (Value.slice aU ((bX B i).secs ++ [z]).length cU).ownBlock = some (K.gs i) ∨ (Value.slice aU ((bX B i).secs ++ [z]).length cU).ownBlock = some w.heap.size) :
    ∃ K', OwnBook (wU.setCell ⟨K.G, i * 4 + 2, none⟩ (.slice aU ((bX B i).secs ++ [z]).length cU)) lo v (setOrd B i ⟨(bX B i).holder, (bX B i).kind, (bX B i).secs ++ [z], (bX B i).state⟩) K' ∧ K'.G = K.G := by
  obtain ⟨L, hL⟩ : ∃ L, L = (bX B i).secs ++ [z] := ⟨_, rfl⟩
  rw [← hL] at h2 hk ⊢
  have hLp : 0 < L.length := by rw [hL]; simp
  clear hL
  obtain ⟨⟨ao, co, al, cl, ac, cc, e, h1, h3, h4⟩, q1, q2, q3, q4, q5⟩ := h
  have hn : 0 < B.orders.length := by omega
  have hgi : 0 < (B.orders.getD i Ord.zero).secs.length := hs
  have hf : Fr (fun x => x = K.gs i) w wU := ⟨hg.os, hg.tape, hg.output, hg.size, fun j hj hn => hg.block j hj (fun e => hn (Option.some.inj e))⟩
  have h2' : wU.ownsRow lo 3 1 (.slice aU L.length cU) L.length ((List.range (L.length * 1)).map (iV L)) := by
    have e : (List.range (L.length * 1)).map (iV L) = L.map (Value.int .i64) := by
      refine List.ext_getElem? (fun i => ?_)
      by_cases hi : i < L.length
      · simp [iV, hi]
      · simp [hi]
    rw [e]; exact h2
  obtain ⟨ad, c', g, hv, hp⟩ := pre_of_owns h2'
  simp only [Value.slice.injEq, true_and] at hv
  obtain ⟨rfl, rfl⟩ := hv
  obtain ⟨hp1, hp2, hp3, hp4⟩ := hp hLp
  rw [Nat.mul_one] at hp3
  have hGs := h1.slow i hi hgi
  have hGl : K.G < w.heap.size := (h1.row hn).lt
  have hgk : g = K.gs i ∨ g = w.heap.size := by
    rw [hp4] at hk
    rcases hk with e | e
    · exact Or.inl (Option.some.inj e)
    · exact Or.inr (Option.some.inj e)
  have hgG : g ≠ K.G := by
    rcases hgk with e | e
    · rw [e]; exact hGs.2
    · omega
  have hSl : ∀ j, j < B.orders.length → 0 < (B.orders.getD j Ord.zero).secs.length → K.gs j < w.heap.size := fun j hj hp => (h1.sec j hj hp).2.lt
  have hl := setOrd_len B i ⟨(bX B i).holder, (bX B i).kind, L, (bX B i).state⟩
  have bx : ∀ j, (setOrd B i ⟨(bX B i).holder, (bX B i).kind, L, (bX B i).state⟩).orders.getD j Ord.zero = if j = i then ⟨(bX B i).holder, (bX B i).kind, L, (bX B i).state⟩ else B.orders.getD j Ord.zero := fun j => bX_setOrd B i _ hi j
  have old : ∀ j, ¬ j = i → 0 < ((setOrd B i ⟨(bX B i).holder, (bX B i).kind, L, (bX B i).state⟩).orders.getD j Ord.zero).secs.length → 0 < (B.orders.getD j Ord.zero).secs.length := fun j e h => by rw [bx, if_neg e] at h; exact h
  have hgn : ∀ j, j < B.orders.length → ¬ j = i → 0 < (B.orders.getD j Ord.zero).secs.length → K.gs j ≠ g := fun j hj e hp => by
    rcases hgk with q | q
    · rw [q]; exact fun e2 => e (h1.inj j i hj hi hp hgi e2)
    · have := hSl j hj hp; omega
  refine ⟨⟨K.G, put1 K.gs i g, put1 K.sa i aU, put1 K.sc i cU, K.L, K.C⟩, ⟨⟨ao, co, al, cl, ac, cc, by rw [hl]; exact e, ?_, ?_, ?_⟩, fun a b => q1 hn b, fun a b => q2 hn b, q3, fun a j hj hp => ?_, fun a j hj hp => ?_⟩, rfl⟩
  · rw [hl]
    show OwnOrds _ lo ao B.orders.length _ K.G (put1 K.gs i g) (put1 K.sa i aU) (put1 K.sc i cU)
    refine ⟨h1.head, fun _ => ?_, h1.low, fun j hj hp => ?_, fun j hj hp => ?_, fun j k hj hk' hp hp' => ?_⟩
    · have pr : Pre wU K.G 41 (B.orders.length * 4) (ordCells (fun i => B.orders.getD i Ord.zero) K.sa K.sc) := hf.row (h1.row hn) (fun e => hGs.2 e.symm)
      refine (pr.set (i * 4 + 2) _).congr (fun q hq => ?_)
      show (if q = i * 4 + 2 then Value.slice aU L.length cU else ordCell (B.orders.getD (q / 4) Ord.zero) (K.sa (q / 4)) (K.sc (q / 4)) (q % 4)) = ordCell ((setOrd B i ⟨(bX B i).holder, (bX B i).kind, L, (bX B i).state⟩).orders.getD (q / 4) Ord.zero) (put1 K.sa i aU (q / 4)) (put1 K.sc i cU (q / 4)) (q % 4)
      rw [bx]
      by_cases e : q / 4 = i
      · rw [if_pos e, e, put1_new, put1_new]
        rcases (show q % 4 = 0 ∨ q % 4 = 1 ∨ q % 4 = 2 ∨ q % 4 = 3 by omega) with r | r | r | r
        · rw [if_neg (by omega), r]; rfl
        · rw [if_neg (by omega), r]; rfl
        · rw [if_pos (by omega), r]; rfl
        · rw [if_neg (by omega), r]; rfl
      · rw [if_neg (by omega), if_neg e]
        unfold put1
        rw [if_neg e, if_neg e]
    · by_cases e : j = i
      · subst e
        simp only [bx, if_true, put1_new]
        exact ⟨hp1, hp3.setOther hgG _⟩
      · have hp' := old j e hp
        simp only [bx, if_neg e]
        unfold put1
        rw [if_neg e, if_neg e]
        exact ⟨(h1.sec j hj hp').1, (hf.row (h1.sec j hj hp').2 (fun e2 => e (h1.inj j i hj hi hp' hgi e2))).setOther (h1.slow j hj hp').2 _⟩
    · by_cases e : j = i
      · subst e
        rw [put1_new]
        exact ⟨hp2, hgG⟩
      · unfold put1
        rw [if_neg e]
        exact h1.slow j hj (old j e hp)
    · intro ee
      by_cases e1 : j = i
      · by_cases e2 : k = i
        · omega
        · subst e1
          unfold put1 at ee
          rw [if_pos rfl, if_neg e2] at ee
          exact absurd ee.symm (hgn k hk' e2 (old k e2 hp'))
      · by_cases e2 : k = i
        · subst e2
          unfold put1 at ee
          rw [if_neg e1, if_pos rfl] at ee
          exact absurd ee (hgn j hj e1 (old j e1 hp))
        · unfold put1 at ee
          rw [if_neg e1, if_neg e2] at ee
          exact h1.inj j k hj hk' (old j e1 hp) (old k e2 hp') ee
  · exact (h3.ofBlock (fun p => hf.block _ (h3.row p).lt (fun e => q4 p i hi hgi e.symm))).setOther (fun p => q1 hn p) _
  · exact (h4.ofBlock (fun p => hf.block _ (h4.row p).lt (fun e => q5 p i hi hgi e.symm))).setOther (fun p => q2 hn p) _
  · rw [hl] at hj
    by_cases e : j = i
    · subst e
      show put1 K.gs j g j ≠ K.L
      rw [put1_new]
      rcases hgk with q | q
      · rw [q]; exact q4 a j hi hgi
      · have := (h3.row a).lt; omega
    · show put1 K.gs i g j ≠ K.L
      unfold put1
      rw [if_neg e]
      exact q4 a j hj (old j e hp)
  · rw [hl] at hj
    by_cases e : j = i
    · subst e
      show put1 K.gs j g j ≠ K.C
      rw [put1_new]
      rcases hgk with q | q
      · rw [q]; exact q5 a j hi hgi
      · have := (h4.row a).lt; omega
    · show put1 K.gs i g j ≠ K.C
      unfold put1
      rw [if_neg e]
      exact q5 a j hj (old j e hp)

end Go.Proofs.YteifekoiognhmaaGreatDoor
