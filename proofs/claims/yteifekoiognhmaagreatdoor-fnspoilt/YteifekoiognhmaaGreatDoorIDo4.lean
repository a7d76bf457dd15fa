/-
  The contract of impl.write. Mine, by program (wip/ido4.py), by template (wip/gen.py).
-/
import Derived.Test.YteifekoiognhmaaGreatDoorIDo3
import Derived.Test.YteifekoiognhmaaGreatDoorICopy
namespace Go.Proofs.YteifekoiognhmaaGreatDoor
open Go.RowKit

/-- How an event ends that is done in the book that a variable holds. -/
def RetY (A : Nat → Addr) (e : Ending) (w w' : World) (lo p : Nat) (r : Int × Bk) : Prop :=
  ∃ o v' K', e = .returned (errO A o) ∧ ErrOk o ∧ codeN o = r.1 ∧ OwnBook w' lo v' r.2 K' ∧ BoxAt w' p v' ∧ Below lo w w'

theorem RetX.toY {A : Nat → Addr} {e : Ending} {w w' : World} {lo p : Nat} {v : Value} {B : Bk} {K : Blk} {r : Int × Bk} (h : RetX A e w w' lo v B K r) (h0 : OwnBook w lo v B K) (hp : BoxAt w p v) (hn : ∀ b, bookBlocks B K b → b ≠ p) (hlo : lo ≤ w.heap.size) : RetY A e w w' lo p r := by
  obtain ⟨o, e1, e2, e3, h1, hf⟩ := h
  obtain ⟨a, b, c, d, ev, hb⟩ := hp
  exact ⟨o, v, K, e1, e2, e3, h1, ⟨a, b, c, d, ev, (hf.block _ (Array.getElem?_eq_some_iff.1 hb).1 (fun q => hn _ q rfl)).trans hb⟩, hf.below hlo (fun i hi => h0.blocks_low hi)⟩

theorem bX_add (B : Bk) (x : Ord) (i : Nat) (hi : i < B.orders.length + 1) : bX (addOrd B x) i = put1 (bX B) B.orders.length x i := by
  show (B.orders ++ [x]).getD i Ord.zero = _
  unfold put1
  by_cases e : i = B.orders.length
  · rw [if_pos e, e]; simp [List.getD_eq_getElem?_getD]
  · rw [if_neg e]
    have : i < B.orders.length := by omega
    unfold bX
    simp [List.getD_eq_getElem?_getD, List.getElem?_append_left this]

theorem ownBook_push {w4 wU : World} {lo : Nat} {B : Bk} {K : Blk} {x : Ord} {al ac : Option Addr} {cl cc : Nat} {u vU : Value} {GS : Nat} {adS : Option Addr} {cS : Nat}
    (h : RowBook w4 lo (.agg #[.int .i64 B.n, u, .slice al B.locked.length cl, .slice ac B.occ.length cc]) B K)
    (hs : 0 < x.secs.length → adS = some ⟨GS, 0, none⟩ ∧ Pre w4 GS 3 x.secs.length (iV x.secs) ∧ lo ≤ GS ∧ ∀ b, bookBlocks B K b → b ≠ GS)
    (hU : wU.ownsRow lo 41 4 vU (B.orders.length + 1) (flat (bX B) K.sa K.sc B.orders.length ++ cellsOf x adS cS)) (hg : w4.grownBy wU u.ownBlock) (hk : vU.ownBlock = u.ownBlock ∨ vU.ownBlock = some w4.heap.size) :
    ∃ K' adU cU, vU = .slice adU (B.orders.length + 1) cU ∧ OwnBook wU lo (.agg #[.int .i64 B.n, vU, .slice al B.locked.length cl, .slice ac B.occ.length cc]) (addOrd B x) K' ∧ ∀ b, bookBlocks (addOrd B x) K' b → bookBlocks B K b ∨ (0 < x.secs.length ∧ b = GS) ∨ b = w4.heap.size := by
  obtain ⟨u', x1, x2, e, hrow, hub⟩ := h.row
  simp only [Value.agg.injEq, Array.mk.injEq, List.cons.injEq, and_true, true_and] at e
  obtain ⟨rfl, -, -⟩ := e
  have hu0 : B.orders.length = 0 → u.ownBlock = none := fun e => by rw [hrow.nil e]; rfl
  have hublk : ∀ g, u.ownBlock = some g → 0 < B.orders.length ∧ g = K.G := fun g hgg => by
    rcases Nat.eq_zero_or_pos B.orders.length with e | e
    · rw [hu0 e] at hgg; cases hgg
    · rw [hub e] at hgg; exact ⟨e, (Option.some.inj hgg).symm⟩
  have push := RowOrds.push hrow x GS adS cS (fun q => by
    obtain ⟨t1, t2, t3, t4⟩ := hs q
    exact ⟨t1, t2, t3, fun e => t4 K.G (Or.inl (Or.inl ⟨(hublk _ e).1, rfl⟩)) (hublk _ e).2.symm, fun i hi hp => t4 _ (Or.inl (Or.inr ⟨i, hi, hp, rfl⟩))⟩) hU hg hk
  obtain ⟨ad2, c2, G2, rfl, hown, hG2⟩ := push.own
  have hGk : G2 = K.G ∧ 0 < B.orders.length ∨ G2 = w4.heap.size := by
    have e1 := hG2 (by omega)
    rcases hk with e | e
    · rw [e1] at e
      have := hublk G2 e.symm
      exact Or.inl ⟨this.2, this.1⟩
    · rw [e1] at e; exact Or.inr (Option.some.inj e)
  obtain ⟨⟨ao, co, al', cl', ac', cc', ev, h1, h2, h3⟩, q1, q2, q3, q4, q5⟩ := h.own
  simp only [Value.agg.injEq, Array.mk.injEq, List.cons.injEq, Value.slice.injEq, and_true, true_and] at ev
  obtain ⟨-, ⟨rfl, rfl⟩, ⟨rfl, rfl⟩⟩ := ev
  have hlen : (addOrd B x).orders.length = B.orders.length + 1 := by simp [addOrd]
  have keep : ∀ g, g < w4.heap.size → (0 < B.orders.length → g ≠ K.G) → wU.heap[g]? = w4.heap[g]? := fun g hl hne => hg.block g hl (fun e => by have := hublk g e.symm; exact hne this.1 this.2)
  have sx : ∀ i, i < B.orders.length + 1 → ((addOrd B x).orders.getD i Ord.zero).secs.length = (put1 (bX B) B.orders.length x i).secs.length := fun i hi => by
    have := bX_add B x i hi
    unfold bX at this
    rw [this]
    rfl
  have gsne : ∀ i, i < B.orders.length + 1 → 0 < (put1 (bX B) B.orders.length x i).secs.length → (put1 K.gs B.orders.length GS i = GS ∧ 0 < x.secs.length) ∨ (∃ j, j < B.orders.length ∧ 0 < (bX B j).secs.length ∧ put1 K.gs B.orders.length GS i = K.gs j) := fun i hi hp => by
    by_cases e : i = B.orders.length
    · subst e; rw [put1_new] at hp ⊢; exact Or.inl ⟨rfl, hp⟩
    · have hi' : i < B.orders.length := by omega
      rw [put1_old _ _ _ hi'] at hp ⊢; exact Or.inr ⟨i, hi', hp, rfl⟩
  refine ⟨⟨G2, put1 K.gs B.orders.length GS, put1 K.sa B.orders.length adS, put1 K.sc B.orders.length cS, K.L, K.C⟩, ad2, c2, rfl, ⟨⟨ad2, c2, al, cl, ac, cc, by rw [hlen]; rfl, ?_, h2.ofBlock (fun p => keep _ (h2.row p).lt (fun a => q1 a p)), h3.ofBlock (fun p => keep _ (h3.row p).lt (fun a => q2 a p))⟩, fun _ p => ?_, fun _ p => ?_, q3, fun p i hi hp => ?_, fun p i hi hp => ?_⟩, fun b hb => ?_⟩
  · rw [hlen]
    exact hown.congr (fun i hi => (bX_add B x i hi).symm)
  · rcases hGk with ⟨e, a⟩ | e
    · show K.L ≠ G2; rw [e]; exact q1 a p
    · have := (h2.row p).lt; show K.L ≠ G2; omega
  · rcases hGk with ⟨e, a⟩ | e
    · show K.C ≠ G2; rw [e]; exact q2 a p
    · have := (h3.row p).lt; show K.C ≠ G2; omega
  · rw [hlen] at hi
    rw [sx i hi] at hp
    show put1 K.gs B.orders.length GS i ≠ K.L
    rcases gsne i hi hp with ⟨e, q⟩ | ⟨j, hj, hq, e⟩
    · rw [e]; exact fun q' => (hs q).2.2.2 K.L (Or.inr (Or.inl ⟨p, rfl⟩)) q'.symm
    · rw [e]; exact q4 p j hj hq
  · rw [hlen] at hi
    rw [sx i hi] at hp
    show put1 K.gs B.orders.length GS i ≠ K.C
    rcases gsne i hi hp with ⟨e, q⟩ | ⟨j, hj, hq, e⟩
    · rw [e]; exact fun q' => (hs q).2.2.2 K.C (Or.inr (Or.inr ⟨p, rfl⟩)) q'.symm
    · rw [e]; exact q5 p j hj hq
  · rcases hb with (⟨_, e⟩ | ⟨i, hi, hp, e⟩) | h | h
    · rcases hGk with ⟨e', a⟩ | e'
      · exact Or.inl (Or.inl (Or.inl ⟨a, e.trans e'⟩))
      · exact Or.inr (Or.inr (e.trans e'))
    · rw [hlen] at hi
      have hp' : 0 < (put1 (bX B) B.orders.length x i).secs.length := by rw [← bX_add B x i hi]; exact hp
      rcases gsne i hi hp' with ⟨e', q⟩ | ⟨j, hj, hq, e'⟩
      · exact Or.inr (Or.inl ⟨q, e.trans e'⟩)
      · exact Or.inl (Or.inl (Or.inr ⟨j, hj, hq, e.trans e'⟩))
    · exact Or.inl (Or.inr (Or.inl h))
    · exact Or.inl (Or.inr (Or.inr h))

set_option maxHeartbeats 8000000 in
theorem writeOrd_any (A : Nat → Addr) (v : Value) (B : Bk) (K : Blk) (lo p : Nat) (x : Ord) (ad : Option Addr) (c : Nat) (w : World) (hE : Errs w A) (h : RowBook w lo v B K) (hp : BoxAt w p v) (hnp : ∀ b, bookBlocks B K b → b ≠ p) (hlo : lo ≤ w.heap.size) (hlp : lo ≤ p) (hO : B.orders.length ≤ 200) (hx : x.secs.length ≤ 1048576) (G : Cells w ad x.secs.length (iV x.secs)) :
    Calls Tryz.prog 71 #[.pointer (some ⟨p, 0, none⟩), .agg #[.string x.holder, .int .i64 x.kind, .slice ad x.secs.length c, .int .i64 x.state]] w fun e w' => RetY A e w w' lo p (doWrite B x) := by
  obtain ⟨io, hio, zo0, zo1, zo2⟩ := info_parts Tryz.infoOrder
  obtain ⟨ao, co, al, cl, ac, cc, rfl, -, -, -⟩ := h.own.shape
  have hp0 := hp
  obtain ⟨a, b, c', d, e, hbx⟩ := hp
  simp only [Value.agg.injEq, Array.mk.injEq, List.cons.injEq, and_true] at e
  obtain ⟨rfl, rfl, rfl, rfl⟩ := e
  have pne0 : (Value.slice ao B.orders.length co).ownBlock ≠ some p := by
    obtain ⟨u, _, _, e, q, q2⟩ := h.row
    simp only [Value.agg.injEq, Array.mk.injEq, List.cons.injEq, and_true] at e
    obtain ⟨-, rfl, -, -⟩ := e
    intro e2
    rcases Nat.eq_zero_or_pos B.orders.length with e3 | e3
    · have := q.nil e3
      rw [this] at e2
      cases e2
    · rw [q2 e3] at e2
      exact hnp K.G (Or.inl (Or.inl ⟨e3, rfl⟩)) (Option.some.inj e2)
  obtain ⟨W, hW⟩ : ∃ W, W = w.alloc (.cells #[.string x.holder, .int .i64 x.kind, .slice ad x.secs.length c, .int .i64 x.state] 41) := ⟨_, rfl⟩
  have B1 : Below w.heap.size w W := by rw [hW]; exact below1 _ _
  have bq : W.heap[w.heap.size]? = some (.cells #[.string x.holder, .int .i64 x.kind, .slice ad x.secs.length c, .int .i64 x.state] 41 (0, 0)) := by rw [hW]; exact Deep.blk_alloc_new _ _
  have zw : w.heap.size < W.heap.size := by rw [hW]; simp
  have bx1 : W.heap[p]? = some (.cells #[.int .i64 B.n, .slice ao B.orders.length co, .slice al B.locked.length cl, .slice ac B.occ.length cc] 37 (0, 0)) := (B1.block _ (Array.getElem?_eq_some_iff.1 hbx).1).trans hbx
  have E1 := hE.below B1
  have zp : p < W.heap.size := (Array.getElem?_eq_some_iff.1 bx1).1
  have zlo : lo ≤ W.heap.size := by omega
  obtain ⟨o0, o1, o2, o3⟩ := box_cells bx1
  obtain ⟨q0, q1, q2, q3⟩ := box_cells bq
  have v1 : W.cell? ⟨1, 0, none⟩ = some (errV A 1) := E1.v 1 (by omega)
  have HX : Hid (Cells W ad x.secs.length (iV x.secs)) := G.below B1
  have HR : Hid (RowBook W lo (.agg #[.int .i64 B.n, .slice ao B.orders.length co, .slice al B.locked.length cl, .slice ac B.occ.length cc]) B K ∧ W.heap[p]? = some (.cells #[.int .i64 B.n, .slice ao B.orders.length co, .slice al B.locked.length cl, .slice ac B.occ.length cc] 37 (0, 0)) ∧ (Value.slice ao B.orders.length co).ownBlock ≠ some p ∧ Below lo w W ∧ (∀ b, bookBlocks B K b → b ≠ p)) := ⟨h.below B1, bx1, pne0, B1.mono hlo, hnp⟩
  have HW : Hid (W = w.alloc (.cells #[.string x.holder, .int .i64 x.kind, .slice ad x.secs.length c, .int .i64 x.state] 41)) := hW
  have o1L := o1
  have v1L := v1
  rw [hW] at o1L v1L
  clear G h hE hbx hp0 pne0 bx1 E1 bq B1 hnp hW
  by_cases h200 : B.orders.length < 200
  case neg =>
    have t1 : decide ((200 : Int) ≤ (B.orders.length : Int)) = true := decide_eq_true (by omega)
    go_enter Tryz.func71, Tryz.ntmps71
    go_wp2
    go_ret
    rw [← HW.out]
    obtain ⟨r1, r2, -, r4, -⟩ := HR.out
    refine ⟨some 1, _, K, rfl, by unfold ErrOk; simp, ?_, ?_, ⟨_, _, _, _, rfl, r2⟩, r4⟩
    · unfold doWrite; rw [if_neg h200]; rfl
    · unfold doWrite; rw [if_neg h200]; exact r1.own
  · have t1 : decide ((200 : Int) ≤ (B.orders.length : Int)) = false := decide_eq_false (by omega)
    go_enter Tryz.func71, Tryz.ntmps71
    go_wp2
    rw [← HW.out]
    clear t1 o1L v1L
    refine wp_region_any (by kernel_rfl) ?_
    change wpAny _ _ _ _ _ _ _ (World.drew _)
    refine wpAny_take (i := 0) (v := ?_) rfl (by kernel_rfl) (by kernel_rfl) (by kernel_rfl) (fun _ _ _ h => h) (Or.inl ⟨by kernel_rfl, ?_⟩) ?_
    rotate_left 1
    · (intro w; go_simp; try (with_reducible rfl))
    refine wpAny_take (i := 1) (v := ?_) rfl (by kernel_rfl) (by kernel_rfl) (by kernel_rfl) (fun _ _ _ h => h) (Or.inl ⟨by kernel_rfl, ?_⟩) ?_
    rotate_left 1
    · (intro w; go_simp; try (with_reducible rfl))
    refine wpAny_take (i := 2) (v := ?_) rfl (by kernel_rfl) (by kernel_rfl) (by kernel_rfl) (fun _ _ _ h => h) (Or.inl ⟨by kernel_rfl, ?_⟩) ?_
    rotate_left 1
    · (intro w; go_simp; try (with_reducible rfl))
    refine wpAny_take (i := 3) (v := ?_) rfl (by kernel_rfl) (by kernel_rfl) (by kernel_rfl) (fun _ _ _ h => h) (Or.inl ⟨by kernel_rfl, ?_⟩) ?_
    rotate_left 1
    · (intro w; go_simp; try (with_reducible rfl))
    refine wpAny_ready (rs := [4, 5]) (by kernel_rfl) (by simp) ?_
    refine AllReady.cons rfl (fun Kx hK => ?_) (AllReady.cons rfl (fun Kx hK => ?_) (AllReady.nil))
    · skip
      go_simp
      refine hK _ _ ?_
      clear hK Kx
      refine wpAny_ready (rs := [5]) (by kernel_rfl) (by simp) ?_
      refine AllReady.cons rfl (fun Kx hK => ?_) (AllReady.nil)
      go_simp
      refine hK _ _ ?_
      clear hK Kx
      refine wpAny_ready (rs := [6]) (by kernel_rfl) (by simp) ?_
      refine AllReady.cons rfl (fun Kx hK => ?_) (AllReady.nil)
      go_simp
      refine (copyOrder_any x ad c _ hx (HX.out.below (Below.refl _ _).drew)).mono ?_
      rintro e wS ⟨adS, cS, GS, rfl, hGS, hbS0⟩
      have hbS : Below W.heap.size W wS := (Below.refl _ _).drew.trans hbS0
      have zS : W.heap.size ≤ wS.heap.size := hbS.size
      have oS : wS.cell? ⟨p, 1, none⟩ = some (.slice ao B.orders.length co) := (hbS.cell (p := ⟨p, 1, none⟩) zp).trans o1
      have HY : Hid ((0 < x.secs.length → adS = some ⟨GS, 0, none⟩ ∧ W.heap.size ≤ GS ∧ Pre wS GS 3 x.secs.length (iV x.secs)) ∧ Below W.heap.size W wS) := ⟨hGS, hbS⟩
      refine hK _ _ ?_
      clear hK Kx hGS hbS hbS0
      refine wpAny_ready (rs := [7]) (by kernel_rfl) (by simp) ?_
      refine AllReady.cons rfl (fun Kx hK => ?_) (AllReady.nil)
      go_simp
      refine hK _ _ ?_
      clear hK Kx
      refine wpAny_ready (rs := [8]) (by kernel_rfl) (by simp) ?_
      refine AllReady.cons rfl (fun Kx hK => ?_) (AllReady.nil)
      have S4 : Below W.heap.size W (wS.alloc (.cells #[.string x.holder, .int .i64 x.kind, .slice adS x.secs.length cS, .int .i64 x.state] 41)) := HY.out.2.alloc (by omega) _
      have R4 := HR.out.1.below S4
      have n4 : ∀ j u', (cellsOf x adS cS)[j]? = some u' → (wS.alloc (.cells #[.string x.holder, .int .i64 x.kind, .slice adS x.secs.length cS, .int .i64 x.state] 41)).cell? ((⟨wS.heap.size, 0, none⟩ : Addr).add j) = some u' := by
        have hn := Deep.blk_alloc_new wS (.cells #[.string x.holder, .int .i64 x.kind, .slice adS x.secs.length cS, .int .i64 x.state] 41)
        intro j u' hu
        rw [add0]
        refine cell_of_box hn ?_
        rw [← Array.getElem?_toList]
        exact hu
      have hrow : (wS.alloc (.cells #[.string x.holder, .int .i64 x.kind, .slice adS x.secs.length cS, .int .i64 x.state] 41)).ownsRow lo 41 4 (.slice ao B.orders.length co) B.orders.length (flat (bX B) K.sa K.sc B.orders.length) := by
        obtain ⟨u, _, _, e, q, _⟩ := R4.row
        simp only [Value.agg.injEq, Array.mk.injEq, List.cons.injEq, and_true] at e
        obtain ⟨-, rfl, -, -⟩ := e
        exact q.row
      have z4 : (wS.alloc (.cells #[.string x.holder, .int .i64 x.kind, .slice adS x.secs.length cS, .int .i64 x.state] 41)).heap.size = wS.heap.size + 1 := alloc_size _ _
      refine wp_append_row _ _ 34 rfl lo 41 io _ 4 56 Tryz.underlying34 hio zo0 zo1 zo2 rfl (by decide) (.slice ao B.orders.length co) B.orders.length (flat (bX B) K.sa K.sc B.orders.length) rfl hrow ⟨wS.heap.size, 0, none⟩ 1 1 (cellsOf x adS cS) rfl rfl n4 ?_ (by unfold maxLen; omega) (by omega) (by rw [z4]; omega) ?_
      · intro x hx
        simp only [cellsOf, List.mem_cons, List.not_mem_nil, or_false] at hx
        rcases hx with rfl | rfl | rfl | rfl <;> rfl
      intro vU wU hownU hgU _ hbU
      have big : ∀ b, bookBlocks B K b → b < W.heap.size := fun b hb => HR.out.1.own.blocks_lt hb
      obtain ⟨K', adU, cU, rfl, hOwn, hblk⟩ := ownBook_push R4 (x := x) (GS := GS) (adS := adS) (cS := cS) (fun q => by
        obtain ⟨t1, t2, t3⟩ := HY.out.1 q
        exact ⟨t1, t3.of_block (Deep.blk_alloc_lt _ _ _ t3.lt), by omega, fun b hb => by have := big b hb; omega⟩) hownU hgU hbU
      have pne : (Value.slice ao B.orders.length co).ownBlock ≠ some p := HR.out.2.2.1
      have y2U : wU.heap[p]? = some (.cells #[.int .i64 B.n, .slice ao B.orders.length co, .slice al B.locked.length cl, .slice ac B.occ.length cc] 37 (0, 0)) := (hgU.block _ (by rw [z4]; omega) (fun e => pne e.symm)).trans ((S4.block _ zp).trans HR.out.2.1)
      have lowU : Below lo (wS.alloc (.cells #[.string x.holder, .int .i64 x.kind, .slice adS x.secs.length cS, .int .i64 x.state] 41)) wU := grown_below hgU (fun g hg => (owns_lt hrow hg).1) (by rw [z4]; omega)
      have HU : Hid (OwnBook wU lo (.agg #[.int .i64 B.n, .slice adU (B.orders.length + 1) cU, .slice al B.locked.length cl, .slice ac B.occ.length cc]) (addOrd B x) K' ∧ wU.heap[p]? = some (.cells #[.int .i64 B.n, .slice ao B.orders.length co, .slice al B.locked.length cl, .slice ac B.occ.length cc] 37 (0, 0)) ∧ Below lo w wU ∧ (∀ b, bookBlocks (addOrd B x) K' b → b ≠ p)) :=
        ⟨hOwn, y2U, (HR.out.2.2.2.1.trans (S4.mono zlo)).trans lowU, fun b hb => by
          rcases hblk b hb with h | ⟨q, h⟩ | h
          · exact HR.out.2.2.2.2 b h
          · have := (HY.out.1 q).2.1; omega
          · omega⟩
      have oU : wU.cell? ⟨p, 1, none⟩ = some (.slice ao B.orders.length co) := cell_of_box y2U rfl
      have fU : wU.frozen? ⟨p, 1, none⟩ = false := frozen_of_box y2U
      refine hK _ _ ?_
      clear hK Kx hownU hgU hbU z4 y2U HY HR S4 R4 n4 oS hrow big hOwn hblk pne lowU o1
      refine wpAny_take (i := 9) (v := ?_) rfl (by kernel_rfl) (by kernel_rfl) (by kernel_rfl) (fun _ _ _ h => h) (Or.inl ⟨by kernel_rfl, ?_⟩) ?_
      rotate_left 1
      · (intro w; go_simp; try (with_reducible rfl))
      refine wpAny_take (i := 10) (v := ?_) rfl (by kernel_rfl) (by kernel_rfl) (by kernel_rfl) (fun _ _ _ h => h) (Or.inl ⟨by kernel_rfl, ?_⟩) ?_
      rotate_left 1
      · (intro w; go_simp; try (with_reducible rfl))
      refine wpAny_ready (rs := [11]) (by kernel_rfl) (by simp) ?_
      refine AllReady.cons rfl (fun Kx hK => ?_) (AllReady.nil)
      go_simp
      refine hK _ _ ?_
      clear hK Kx oU fU
      refine wpAny_end (by kernel_rfl) ?_
      go_simp
      go_wp2
      go_ret
      obtain ⟨t1, t2, t3, t4⟩ := HU.out
      refine ⟨none, _, K', rfl, Or.inl rfl, ?_, ?_, ⟨_, _, _, _, rfl, (box_set t2 _).trans rfl⟩, below_set t3 _ _ hlp _⟩
      · unfold doWrite; rw [if_pos h200]; rfl
      · unfold doWrite; rw [if_pos h200]; exact t1.setOther (a := ⟨p, 1, none⟩) t4 _
    · skip
      go_simp
      refine hK _ _ ?_
      clear hK Kx
      refine wpAny_ready (rs := [4, 6]) (by kernel_rfl) (by simp) ?_
      refine AllReady.cons rfl (fun Kx hK => ?_) (AllReady.cons rfl (fun Kx hK => ?_) (AllReady.nil))
      · skip
        go_simp
        refine hK _ _ ?_
        clear hK Kx
        refine wpAny_ready (rs := [6]) (by kernel_rfl) (by simp) ?_
        refine AllReady.cons rfl (fun Kx hK => ?_) (AllReady.nil)
        go_simp
        refine (copyOrder_any x ad c _ hx (HX.out.below (Below.refl _ _).drew)).mono ?_
        rintro e wS ⟨adS, cS, GS, rfl, hGS, hbS0⟩
        have hbS : Below W.heap.size W wS := (Below.refl _ _).drew.trans hbS0
        have zS : W.heap.size ≤ wS.heap.size := hbS.size
        have oS : wS.cell? ⟨p, 1, none⟩ = some (.slice ao B.orders.length co) := (hbS.cell (p := ⟨p, 1, none⟩) zp).trans o1
        have HY : Hid ((0 < x.secs.length → adS = some ⟨GS, 0, none⟩ ∧ W.heap.size ≤ GS ∧ Pre wS GS 3 x.secs.length (iV x.secs)) ∧ Below W.heap.size W wS) := ⟨hGS, hbS⟩
        refine hK _ _ ?_
        clear hK Kx hGS hbS hbS0
        refine wpAny_ready (rs := [7]) (by kernel_rfl) (by simp) ?_
        refine AllReady.cons rfl (fun Kx hK => ?_) (AllReady.nil)
        go_simp
        refine hK _ _ ?_
        clear hK Kx
        refine wpAny_ready (rs := [8]) (by kernel_rfl) (by simp) ?_
        refine AllReady.cons rfl (fun Kx hK => ?_) (AllReady.nil)
        have S4 : Below W.heap.size W (wS.alloc (.cells #[.string x.holder, .int .i64 x.kind, .slice adS x.secs.length cS, .int .i64 x.state] 41)) := HY.out.2.alloc (by omega) _
        have R4 := HR.out.1.below S4
        have n4 : ∀ j u', (cellsOf x adS cS)[j]? = some u' → (wS.alloc (.cells #[.string x.holder, .int .i64 x.kind, .slice adS x.secs.length cS, .int .i64 x.state] 41)).cell? ((⟨wS.heap.size, 0, none⟩ : Addr).add j) = some u' := by
          have hn := Deep.blk_alloc_new wS (.cells #[.string x.holder, .int .i64 x.kind, .slice adS x.secs.length cS, .int .i64 x.state] 41)
          intro j u' hu
          rw [add0]
          refine cell_of_box hn ?_
          rw [← Array.getElem?_toList]
          exact hu
        have hrow : (wS.alloc (.cells #[.string x.holder, .int .i64 x.kind, .slice adS x.secs.length cS, .int .i64 x.state] 41)).ownsRow lo 41 4 (.slice ao B.orders.length co) B.orders.length (flat (bX B) K.sa K.sc B.orders.length) := by
          obtain ⟨u, _, _, e, q, _⟩ := R4.row
          simp only [Value.agg.injEq, Array.mk.injEq, List.cons.injEq, and_true] at e
          obtain ⟨-, rfl, -, -⟩ := e
          exact q.row
        have z4 : (wS.alloc (.cells #[.string x.holder, .int .i64 x.kind, .slice adS x.secs.length cS, .int .i64 x.state] 41)).heap.size = wS.heap.size + 1 := alloc_size _ _
        refine wp_append_row _ _ 34 rfl lo 41 io _ 4 56 Tryz.underlying34 hio zo0 zo1 zo2 rfl (by decide) (.slice ao B.orders.length co) B.orders.length (flat (bX B) K.sa K.sc B.orders.length) rfl hrow ⟨wS.heap.size, 0, none⟩ 1 1 (cellsOf x adS cS) rfl rfl n4 ?_ (by unfold maxLen; omega) (by omega) (by rw [z4]; omega) ?_
        · intro x hx
          simp only [cellsOf, List.mem_cons, List.not_mem_nil, or_false] at hx
          rcases hx with rfl | rfl | rfl | rfl <;> rfl
        intro vU wU hownU hgU _ hbU
        have big : ∀ b, bookBlocks B K b → b < W.heap.size := fun b hb => HR.out.1.own.blocks_lt hb
        obtain ⟨K', adU, cU, rfl, hOwn, hblk⟩ := ownBook_push R4 (x := x) (GS := GS) (adS := adS) (cS := cS) (fun q => by
          obtain ⟨t1, t2, t3⟩ := HY.out.1 q
          exact ⟨t1, t3.of_block (Deep.blk_alloc_lt _ _ _ t3.lt), by omega, fun b hb => by have := big b hb; omega⟩) hownU hgU hbU
        have pne : (Value.slice ao B.orders.length co).ownBlock ≠ some p := HR.out.2.2.1
        have y2U : wU.heap[p]? = some (.cells #[.int .i64 B.n, .slice ao B.orders.length co, .slice al B.locked.length cl, .slice ac B.occ.length cc] 37 (0, 0)) := (hgU.block _ (by rw [z4]; omega) (fun e => pne e.symm)).trans ((S4.block _ zp).trans HR.out.2.1)
        have lowU : Below lo (wS.alloc (.cells #[.string x.holder, .int .i64 x.kind, .slice adS x.secs.length cS, .int .i64 x.state] 41)) wU := grown_below hgU (fun g hg => (owns_lt hrow hg).1) (by rw [z4]; omega)
        have HU : Hid (OwnBook wU lo (.agg #[.int .i64 B.n, .slice adU (B.orders.length + 1) cU, .slice al B.locked.length cl, .slice ac B.occ.length cc]) (addOrd B x) K' ∧ wU.heap[p]? = some (.cells #[.int .i64 B.n, .slice ao B.orders.length co, .slice al B.locked.length cl, .slice ac B.occ.length cc] 37 (0, 0)) ∧ Below lo w wU ∧ (∀ b, bookBlocks (addOrd B x) K' b → b ≠ p)) :=
          ⟨hOwn, y2U, (HR.out.2.2.2.1.trans (S4.mono zlo)).trans lowU, fun b hb => by
            rcases hblk b hb with h | ⟨q, h⟩ | h
            · exact HR.out.2.2.2.2 b h
            · have := (HY.out.1 q).2.1; omega
            · omega⟩
        have oU : wU.cell? ⟨p, 1, none⟩ = some (.slice ao B.orders.length co) := cell_of_box y2U rfl
        have fU : wU.frozen? ⟨p, 1, none⟩ = false := frozen_of_box y2U
        refine hK _ _ ?_
        clear hK Kx hownU hgU hbU z4 y2U HY HR S4 R4 n4 oS hrow big hOwn hblk pne lowU o1
        refine wpAny_take (i := 9) (v := ?_) rfl (by kernel_rfl) (by kernel_rfl) (by kernel_rfl) (fun _ _ _ h => h) (Or.inl ⟨by kernel_rfl, ?_⟩) ?_
        rotate_left 1
        · (intro w; go_simp; try (with_reducible rfl))
        refine wpAny_take (i := 10) (v := ?_) rfl (by kernel_rfl) (by kernel_rfl) (by kernel_rfl) (fun _ _ _ h => h) (Or.inl ⟨by kernel_rfl, ?_⟩) ?_
        rotate_left 1
        · (intro w; go_simp; try (with_reducible rfl))
        refine wpAny_ready (rs := [11]) (by kernel_rfl) (by simp) ?_
        refine AllReady.cons rfl (fun Kx hK => ?_) (AllReady.nil)
        go_simp
        refine hK _ _ ?_
        clear hK Kx oU fU
        refine wpAny_end (by kernel_rfl) ?_
        go_simp
        go_wp2
        go_ret
        obtain ⟨t1, t2, t3, t4⟩ := HU.out
        refine ⟨none, _, K', rfl, Or.inl rfl, ?_, ?_, ⟨_, _, _, _, rfl, (box_set t2 _).trans rfl⟩, below_set t3 _ _ hlp _⟩
        · unfold doWrite; rw [if_pos h200]; rfl
        · unfold doWrite; rw [if_pos h200]; exact t1.setOther (a := ⟨p, 1, none⟩) t4 _
      · skip
        go_simp
        refine (copyOrder_any x ad c _ hx (HX.out.below (Below.refl _ _).drew)).mono ?_
        rintro e wS ⟨adS, cS, GS, rfl, hGS, hbS0⟩
        have hbS : Below W.heap.size W wS := (Below.refl _ _).drew.trans hbS0
        have zS : W.heap.size ≤ wS.heap.size := hbS.size
        have oS : wS.cell? ⟨p, 1, none⟩ = some (.slice ao B.orders.length co) := (hbS.cell (p := ⟨p, 1, none⟩) zp).trans o1
        have HY : Hid ((0 < x.secs.length → adS = some ⟨GS, 0, none⟩ ∧ W.heap.size ≤ GS ∧ Pre wS GS 3 x.secs.length (iV x.secs)) ∧ Below W.heap.size W wS) := ⟨hGS, hbS⟩
        refine hK _ _ ?_
        clear hK Kx hGS hbS hbS0
        refine wpAny_ready (rs := [4, 7]) (by kernel_rfl) (by simp) ?_
        refine AllReady.cons rfl (fun Kx hK => ?_) (AllReady.cons rfl (fun Kx hK => ?_) (AllReady.nil))
        · skip
          go_simp
          refine hK _ _ ?_
          clear hK Kx
          refine wpAny_ready (rs := [7]) (by kernel_rfl) (by simp) ?_
          refine AllReady.cons rfl (fun Kx hK => ?_) (AllReady.nil)
          go_simp
          refine hK _ _ ?_
          clear hK Kx
          refine wpAny_ready (rs := [8]) (by kernel_rfl) (by simp) ?_
          refine AllReady.cons rfl (fun Kx hK => ?_) (AllReady.nil)
          have S4 : Below W.heap.size W (wS.alloc (.cells #[.string x.holder, .int .i64 x.kind, .slice adS x.secs.length cS, .int .i64 x.state] 41)) := HY.out.2.alloc (by omega) _
          have R4 := HR.out.1.below S4
          have n4 : ∀ j u', (cellsOf x adS cS)[j]? = some u' → (wS.alloc (.cells #[.string x.holder, .int .i64 x.kind, .slice adS x.secs.length cS, .int .i64 x.state] 41)).cell? ((⟨wS.heap.size, 0, none⟩ : Addr).add j) = some u' := by
            have hn := Deep.blk_alloc_new wS (.cells #[.string x.holder, .int .i64 x.kind, .slice adS x.secs.length cS, .int .i64 x.state] 41)
            intro j u' hu
            rw [add0]
            refine cell_of_box hn ?_
            rw [← Array.getElem?_toList]
            exact hu
          have hrow : (wS.alloc (.cells #[.string x.holder, .int .i64 x.kind, .slice adS x.secs.length cS, .int .i64 x.state] 41)).ownsRow lo 41 4 (.slice ao B.orders.length co) B.orders.length (flat (bX B) K.sa K.sc B.orders.length) := by
            obtain ⟨u, _, _, e, q, _⟩ := R4.row
            simp only [Value.agg.injEq, Array.mk.injEq, List.cons.injEq, and_true] at e
            obtain ⟨-, rfl, -, -⟩ := e
            exact q.row
          have z4 : (wS.alloc (.cells #[.string x.holder, .int .i64 x.kind, .slice adS x.secs.length cS, .int .i64 x.state] 41)).heap.size = wS.heap.size + 1 := alloc_size _ _
          refine wp_append_row _ _ 34 rfl lo 41 io _ 4 56 Tryz.underlying34 hio zo0 zo1 zo2 rfl (by decide) (.slice ao B.orders.length co) B.orders.length (flat (bX B) K.sa K.sc B.orders.length) rfl hrow ⟨wS.heap.size, 0, none⟩ 1 1 (cellsOf x adS cS) rfl rfl n4 ?_ (by unfold maxLen; omega) (by omega) (by rw [z4]; omega) ?_
          · intro x hx
            simp only [cellsOf, List.mem_cons, List.not_mem_nil, or_false] at hx
            rcases hx with rfl | rfl | rfl | rfl <;> rfl
          intro vU wU hownU hgU _ hbU
          have big : ∀ b, bookBlocks B K b → b < W.heap.size := fun b hb => HR.out.1.own.blocks_lt hb
          obtain ⟨K', adU, cU, rfl, hOwn, hblk⟩ := ownBook_push R4 (x := x) (GS := GS) (adS := adS) (cS := cS) (fun q => by
            obtain ⟨t1, t2, t3⟩ := HY.out.1 q
            exact ⟨t1, t3.of_block (Deep.blk_alloc_lt _ _ _ t3.lt), by omega, fun b hb => by have := big b hb; omega⟩) hownU hgU hbU
          have pne : (Value.slice ao B.orders.length co).ownBlock ≠ some p := HR.out.2.2.1
          have y2U : wU.heap[p]? = some (.cells #[.int .i64 B.n, .slice ao B.orders.length co, .slice al B.locked.length cl, .slice ac B.occ.length cc] 37 (0, 0)) := (hgU.block _ (by rw [z4]; omega) (fun e => pne e.symm)).trans ((S4.block _ zp).trans HR.out.2.1)
          have lowU : Below lo (wS.alloc (.cells #[.string x.holder, .int .i64 x.kind, .slice adS x.secs.length cS, .int .i64 x.state] 41)) wU := grown_below hgU (fun g hg => (owns_lt hrow hg).1) (by rw [z4]; omega)
          have HU : Hid (OwnBook wU lo (.agg #[.int .i64 B.n, .slice adU (B.orders.length + 1) cU, .slice al B.locked.length cl, .slice ac B.occ.length cc]) (addOrd B x) K' ∧ wU.heap[p]? = some (.cells #[.int .i64 B.n, .slice ao B.orders.length co, .slice al B.locked.length cl, .slice ac B.occ.length cc] 37 (0, 0)) ∧ Below lo w wU ∧ (∀ b, bookBlocks (addOrd B x) K' b → b ≠ p)) :=
            ⟨hOwn, y2U, (HR.out.2.2.2.1.trans (S4.mono zlo)).trans lowU, fun b hb => by
              rcases hblk b hb with h | ⟨q, h⟩ | h
              · exact HR.out.2.2.2.2 b h
              · have := (HY.out.1 q).2.1; omega
              · omega⟩
          have oU : wU.cell? ⟨p, 1, none⟩ = some (.slice ao B.orders.length co) := cell_of_box y2U rfl
          have fU : wU.frozen? ⟨p, 1, none⟩ = false := frozen_of_box y2U
          refine hK _ _ ?_
          clear hK Kx hownU hgU hbU z4 y2U HY HR S4 R4 n4 oS hrow big hOwn hblk pne lowU o1
          refine wpAny_take (i := 9) (v := ?_) rfl (by kernel_rfl) (by kernel_rfl) (by kernel_rfl) (fun _ _ _ h => h) (Or.inl ⟨by kernel_rfl, ?_⟩) ?_
          rotate_left 1
          · (intro w; go_simp; try (with_reducible rfl))
          refine wpAny_take (i := 10) (v := ?_) rfl (by kernel_rfl) (by kernel_rfl) (by kernel_rfl) (fun _ _ _ h => h) (Or.inl ⟨by kernel_rfl, ?_⟩) ?_
          rotate_left 1
          · (intro w; go_simp; try (with_reducible rfl))
          refine wpAny_ready (rs := [11]) (by kernel_rfl) (by simp) ?_
          refine AllReady.cons rfl (fun Kx hK => ?_) (AllReady.nil)
          go_simp
          refine hK _ _ ?_
          clear hK Kx oU fU
          refine wpAny_end (by kernel_rfl) ?_
          go_simp
          go_wp2
          go_ret
          obtain ⟨t1, t2, t3, t4⟩ := HU.out
          refine ⟨none, _, K', rfl, Or.inl rfl, ?_, ?_, ⟨_, _, _, _, rfl, (box_set t2 _).trans rfl⟩, below_set t3 _ _ hlp _⟩
          · unfold doWrite; rw [if_pos h200]; rfl
          · unfold doWrite; rw [if_pos h200]; exact t1.setOther (a := ⟨p, 1, none⟩) t4 _
        · skip
          go_simp
          refine hK _ _ ?_
          clear hK Kx
          refine wpAny_ready (rs := [4]) (by kernel_rfl) (by simp) ?_
          refine AllReady.cons rfl (fun Kx hK => ?_) (AllReady.nil)
          have oS4 : (wS.alloc (.cells #[.string x.holder, .int .i64 x.kind, .slice adS x.secs.length cS, .int .i64 x.state] 41)).cell? ⟨p, 1, none⟩ = some (.slice ao B.orders.length co) := by simp [oS, World.cell?_alloc_some]
          go_simp
          refine hK _ _ ?_
          clear hK Kx
          clear oS4
          refine wpAny_ready (rs := [8]) (by kernel_rfl) (by simp) ?_
          refine AllReady.cons rfl (fun Kx hK => ?_) (AllReady.nil)
          have S4 : Below W.heap.size W (wS.alloc (.cells #[.string x.holder, .int .i64 x.kind, .slice adS x.secs.length cS, .int .i64 x.state] 41)) := HY.out.2.alloc (by omega) _
          have R4 := HR.out.1.below S4
          have n4 : ∀ j u', (cellsOf x adS cS)[j]? = some u' → (wS.alloc (.cells #[.string x.holder, .int .i64 x.kind, .slice adS x.secs.length cS, .int .i64 x.state] 41)).cell? ((⟨wS.heap.size, 0, none⟩ : Addr).add j) = some u' := by
            have hn := Deep.blk_alloc_new wS (.cells #[.string x.holder, .int .i64 x.kind, .slice adS x.secs.length cS, .int .i64 x.state] 41)
            intro j u' hu
            rw [add0]
            refine cell_of_box hn ?_
            rw [← Array.getElem?_toList]
            exact hu
          have hrow : (wS.alloc (.cells #[.string x.holder, .int .i64 x.kind, .slice adS x.secs.length cS, .int .i64 x.state] 41)).ownsRow lo 41 4 (.slice ao B.orders.length co) B.orders.length (flat (bX B) K.sa K.sc B.orders.length) := by
            obtain ⟨u, _, _, e, q, _⟩ := R4.row
            simp only [Value.agg.injEq, Array.mk.injEq, List.cons.injEq, and_true] at e
            obtain ⟨-, rfl, -, -⟩ := e
            exact q.row
          have z4 : (wS.alloc (.cells #[.string x.holder, .int .i64 x.kind, .slice adS x.secs.length cS, .int .i64 x.state] 41)).heap.size = wS.heap.size + 1 := alloc_size _ _
          refine wp_append_row _ _ 34 rfl lo 41 io _ 4 56 Tryz.underlying34 hio zo0 zo1 zo2 rfl (by decide) (.slice ao B.orders.length co) B.orders.length (flat (bX B) K.sa K.sc B.orders.length) rfl hrow ⟨wS.heap.size, 0, none⟩ 1 1 (cellsOf x adS cS) rfl rfl n4 ?_ (by unfold maxLen; omega) (by omega) (by rw [z4]; omega) ?_
          · intro x hx
            simp only [cellsOf, List.mem_cons, List.not_mem_nil, or_false] at hx
            rcases hx with rfl | rfl | rfl | rfl <;> rfl
          intro vU wU hownU hgU _ hbU
          have big : ∀ b, bookBlocks B K b → b < W.heap.size := fun b hb => HR.out.1.own.blocks_lt hb
          obtain ⟨K', adU, cU, rfl, hOwn, hblk⟩ := ownBook_push R4 (x := x) (GS := GS) (adS := adS) (cS := cS) (fun q => by
            obtain ⟨t1, t2, t3⟩ := HY.out.1 q
            exact ⟨t1, t3.of_block (Deep.blk_alloc_lt _ _ _ t3.lt), by omega, fun b hb => by have := big b hb; omega⟩) hownU hgU hbU
          have pne : (Value.slice ao B.orders.length co).ownBlock ≠ some p := HR.out.2.2.1
          have y2U : wU.heap[p]? = some (.cells #[.int .i64 B.n, .slice ao B.orders.length co, .slice al B.locked.length cl, .slice ac B.occ.length cc] 37 (0, 0)) := (hgU.block _ (by rw [z4]; omega) (fun e => pne e.symm)).trans ((S4.block _ zp).trans HR.out.2.1)
          have lowU : Below lo (wS.alloc (.cells #[.string x.holder, .int .i64 x.kind, .slice adS x.secs.length cS, .int .i64 x.state] 41)) wU := grown_below hgU (fun g hg => (owns_lt hrow hg).1) (by rw [z4]; omega)
          have HU : Hid (OwnBook wU lo (.agg #[.int .i64 B.n, .slice adU (B.orders.length + 1) cU, .slice al B.locked.length cl, .slice ac B.occ.length cc]) (addOrd B x) K' ∧ wU.heap[p]? = some (.cells #[.int .i64 B.n, .slice ao B.orders.length co, .slice al B.locked.length cl, .slice ac B.occ.length cc] 37 (0, 0)) ∧ Below lo w wU ∧ (∀ b, bookBlocks (addOrd B x) K' b → b ≠ p)) :=
            ⟨hOwn, y2U, (HR.out.2.2.2.1.trans (S4.mono zlo)).trans lowU, fun b hb => by
              rcases hblk b hb with h | ⟨q, h⟩ | h
              · exact HR.out.2.2.2.2 b h
              · have := (HY.out.1 q).2.1; omega
              · omega⟩
          have oU : wU.cell? ⟨p, 1, none⟩ = some (.slice ao B.orders.length co) := cell_of_box y2U rfl
          have fU : wU.frozen? ⟨p, 1, none⟩ = false := frozen_of_box y2U
          refine hK _ _ ?_
          clear hK Kx hownU hgU hbU z4 y2U HY HR S4 R4 n4 oS hrow big hOwn hblk pne lowU o1
          refine wpAny_take (i := 9) (v := ?_) rfl (by kernel_rfl) (by kernel_rfl) (by kernel_rfl) (fun _ _ _ h => h) (Or.inl ⟨by kernel_rfl, ?_⟩) ?_
          rotate_left 1
          · (intro w; go_simp; try (with_reducible rfl))
          refine wpAny_take (i := 10) (v := ?_) rfl (by kernel_rfl) (by kernel_rfl) (by kernel_rfl) (fun _ _ _ h => h) (Or.inl ⟨by kernel_rfl, ?_⟩) ?_
          rotate_left 1
          · (intro w; go_simp; try (with_reducible rfl))
          refine wpAny_ready (rs := [11]) (by kernel_rfl) (by simp) ?_
          refine AllReady.cons rfl (fun Kx hK => ?_) (AllReady.nil)
          go_simp
          refine hK _ _ ?_
          clear hK Kx oU fU
          refine wpAny_end (by kernel_rfl) ?_
          go_simp
          go_wp2
          go_ret
          obtain ⟨t1, t2, t3, t4⟩ := HU.out
          refine ⟨none, _, K', rfl, Or.inl rfl, ?_, ?_, ⟨_, _, _, _, rfl, (box_set t2 _).trans rfl⟩, below_set t3 _ _ hlp _⟩
          · unfold doWrite; rw [if_pos h200]; rfl
          · unfold doWrite; rw [if_pos h200]; exact t1.setOther (a := ⟨p, 1, none⟩) t4 _

end Go.Proofs.YteifekoiognhmaaGreatDoor
