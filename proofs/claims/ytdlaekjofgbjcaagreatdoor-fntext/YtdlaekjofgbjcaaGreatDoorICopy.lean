/-
  The contract of impl.copyBook: a book of its own. Mine, by template (wip/gen.py).
-/
import Derived.Test.YtdlaekjofgbjcaaGreatDoorBaseZ
import Derived.Test.YtdlaekjofgbjcaaGreatDoorSCopy
import Derived.Deep.DeepCutAuto
import Derived.Deep.RegionHeld3
namespace Go.Proofs.YtdlaekjofgbjcaaGreatDoor
open Go.RowKit
theorem pre_other {w : World} {g : Nat} {t : TypeId} {n : Nat} {f : Nat → Value} (h : Pre w g t n f) (b o : Nat) (hb : g ≠ b) (u : Value) : Pre (w.setCell ⟨b, o, none⟩ u) g t n f := h.setOther hb u
theorem alloc_size (w : World) (o : Obj) : (w.alloc o).heap.size = w.heap.size + 1 := by simp
theorem wp_append_row {P : Program} {w : World} {o : Oper} {a : Act} {K : Act → World → Prop} {Q : Exit → Act → World → Prop} (s x : Operand) (t : TypeId)
    (ho : o.op = .call { callee := .builtin .append, args := #[s, x], argTypes := #[t, t] })
    (base : Nat) (e : TypeId) (i : TypeInfo) (z : Value) (size bytes : Nat) (ht : P.underlying t = some (.slice e)) (hi : P.info? e = some i) (hz : i.zero = some z)
    (hsize : i.size = size) (hby : i.bytes = bytes) (hzs : z.cells.size = size) (hsz : 0 < size)
    (v : Value) (n : Nat) (xs : List Value) (hs : a.eval s = v) (hown : w.ownsRow base e size v n xs)
    (ad : Addr) (m c : Nat) (news : List Value) (hx : a.eval x = .slice (some ad) m c) (hl : news.length = m * size) (hnews : ∀ j u, news[j]? = some u → w.cell? (ad.add j) = some u) (h1 : ∀ u ∈ news, u.oneCell' = true)
    (h63 : n + m ≤ maxLen) (hbytes : (n + m) * bytes ≤ 140737488355328) (hbase : base ≤ w.heap.size)
    (h : ∀ v' w', w'.ownsRow base e size v' (n + m) (xs ++ news) → w.grownBy w' v.ownBlock → (v' = .slice none 0 0 ↔ v = .slice none 0 0 ∧ m = 0) → (v'.ownBlock = v.ownBlock ∨ v'.ownBlock = some w.heap.size) → K (a.put o.dst v') w') : o.wp P a w K Q := by
  obtain ⟨v', w', hr, h2, h3, h4, h5⟩ := run_append_own_at (P := P) w base t o.type e i z size bytes ht hi hz hsize hby hzs hsz v n xs hown ad m c news hl hnews h1 h63 hbytes hbase
  unfold Oper.wp execOp
  simp only [ho, resolve, invoke, builtin, Sem.run_bind, Sem.run_pure, Result.andThen_ok, List.map_toArray, List.map_cons, List.map_nil, hs, hx, hr]
  exact h v' w' h2 h3 h4 h5
theorem copyBools_any (ad : Option Addr) (c n : Nat) (V : Nat → Bool) (w : World) (hn : n ≤ 1048576) (K : Cells w ad n (fun i => .bool (V i))) :
    Calls Tryz.prog 64 #[.slice ad n c] w fun e w' => ∃ ad' c' G, e = .returned (.slice ad' n c') ∧ OwnBools w' w.heap.size ad' n V G ∧ Below w.heap.size w w' := by
  obtain ⟨ib, hib, zb0, zb1, zb2⟩ := info_parts Tryz.infoBool
  go_enter Tryz.func64, Tryz.ntmps64
  go_wp2_with (at_builtin; refine stand ?_)
  refine Stand.go ?_
  refine wpList_append_cells _ rfl _ _ 35 rfl w.heap.size 4 ib (.bool false) 1 Tryz.underlying35 hib zb0 zb1 zb2 rfl _ _ _ rfl (World.ownsRow_nil _ _ _ _) ad n c (fun i => .bool (V i)) rfl K (fun _ => rfl) (by unfold maxLen; omega) (by omega) (Nat.le_refl _) ?_
  intro v1 w1 h1 hg _ _
  rw [Nat.zero_add] at h1
  obtain ⟨ad1, c1, G1, rfl, h2, _⟩ := ownBools_of h1
  have HR : Hid (OwnBools w1 w.heap.size ad1 n V G1 ∧ Below w.heap.size w w1) := ⟨h2, grown_below hg (fun g hg => by cases hg) (Nat.le_refl _)⟩
  clear h1 hg h2
  go_wp2
  go_ret
  exact ⟨ad1, c1, G1, rfl, HR.out.1, HR.out.2⟩
theorem copyInts_any (ad : Option Addr) (c : Nat) (l : List Int) (w : World) (hn : l.length ≤ 1048576) (K : Cells w ad l.length (iV l)) :
    Calls Tryz.prog 93 #[.slice ad l.length c] w fun e w' => ∃ ad' c' G, e = .returned (.slice ad' l.length c') ∧ (0 < l.length → ad' = some ⟨G, 0, none⟩ ∧ w.heap.size ≤ G ∧ Pre w' G 3 l.length (iV l)) ∧ Below w.heap.size w w' := by
  obtain ⟨ii, hii, zi0, zi1, zi2⟩ := info_parts Tryz.infoInt
  go_enter Tryz.func93, Tryz.ntmps93
  go_wp2_with (at_builtin; refine stand ?_)
  refine Stand.go ?_
  refine wpList_append_cells _ rfl _ _ 30 rfl w.heap.size 3 ii (.int .i64 0) 8 Tryz.underlying30 hii zi0 zi1 zi2 rfl _ _ _ rfl (World.ownsRow_nil _ _ _ _) ad l.length c (iV l) rfl K (fun _ => rfl) (by unfold maxLen; omega) (by omega) (Nat.le_refl _) ?_
  intro v1 w1 h1 hg _ _
  rw [Nat.zero_add] at h1
  obtain ⟨ad1, c1, G1, rfl, h2⟩ := pre_of_owns (size := 1) (V := iV l) (by rw [Nat.mul_one]; exact h1)
  rw [Nat.mul_one] at h2
  have HR : Hid ((0 < l.length → ad1 = some ⟨G1, 0, none⟩ ∧ w.heap.size ≤ G1 ∧ Pre w1 G1 3 l.length (iV l)) ∧ Below w.heap.size w w1) := ⟨fun p => ⟨(h2 p).1, (h2 p).2.1, (h2 p).2.2.1⟩, grown_below hg (fun g hg => by cases hg) (Nat.le_refl _)⟩
  clear h1 hg h2
  go_wp2
  go_ret
  exact ⟨ad1, c1, G1, rfl, HR.out.1, HR.out.2⟩
theorem copyOrder_any (x : Ord) (ad : Option Addr) (c : Nat) (w : World) (hn : x.secs.length ≤ 1048576) (K : Cells w ad x.secs.length (iV x.secs)) :
    Calls Tryz.prog 65 #[.agg #[.string x.holder, .int .i64 x.kind, .slice ad x.secs.length c, .int .i64 x.state]] w fun e w' => ∃ ad' c' G, e = .returned (.agg #[.string x.holder, .int .i64 x.kind, .slice ad' x.secs.length c', .int .i64 x.state]) ∧ (0 < x.secs.length → ad' = some ⟨G, 0, none⟩ ∧ w.heap.size ≤ G ∧ Pre w' G 3 x.secs.length (iV x.secs)) ∧ Below w.heap.size w w' := by
  have B2 := below2 w (.cells #[.string x.holder, .int .i64 x.kind, .slice ad x.secs.length c, .int .i64 x.state] 41) (.cells #[.string ⟨#[]⟩, .int .i64 0, .slice none 0 0, .int .i64 0] 41)
  go_enter Tryz.func65, Tryz.ntmps65
  go_wp2_with fail
  refine (copyInts_any ad c x.secs _ hn (K.below B2)).mono ?_
  rintro e w1 ⟨ad1, c1, G1, rfl, h1, hb⟩
  have sz2 : ((w.alloc (.cells #[.string x.holder, .int .i64 x.kind, .slice ad x.secs.length c, .int .i64 x.state] 41)).alloc (.cells #[.string ⟨#[]⟩, .int .i64 0, .slice none 0 0, .int .i64 0] 41)).heap.size = w.heap.size + 2 := by simp
  rw [sz2] at h1 hb
  have y0 : w1.heap[w.heap.size]? = some (.cells #[.string x.holder, .int .i64 x.kind, .slice ad x.secs.length c, .int .i64 x.state] 41 (0, 0)) := (hb.block _ (by omega)).trans ((Deep.blk_alloc_lt _ _ _ (by simp)).trans (Deep.blk_alloc_new _ _))
  have y1 : w1.heap[w.heap.size + 1]? = some (.cells #[.string ⟨#[]⟩, .int .i64 0, .slice none 0 0, .int .i64 0] 41 (0, 0)) := (hb.block _ (by omega)).trans (by
    have := Deep.blk_alloc_new (w.alloc (.cells #[.string x.holder, .int .i64 x.kind, .slice ad x.secs.length c, .int .i64 x.state] 41)) (.cells #[.string ⟨#[]⟩, .int .i64 0, .slice none 0 0, .int .i64 0] 41)
    simpa using this)
  have HR : Hid ((0 < x.secs.length → ad1 = some ⟨G1, 0, none⟩ ∧ w.heap.size + 2 ≤ G1 ∧ Pre w1 G1 3 x.secs.length (iV x.secs)) ∧ Below w.heap.size w w1) := ⟨h1, B2.trans (hb.mono (by omega))⟩
  obtain ⟨o0, o1, o2, o3⟩ := box_cells y0
  obtain ⟨q0, q1, q2, q3⟩ := box_cells y1
  have g2 : w1.frozen? ⟨w.heap.size, 2, none⟩ = false := frozen_of_box y0
  have f0 : w1.frozen? ⟨w.heap.size + 1, 0, none⟩ = false := frozen_of_box y1
  have f1 : w1.frozen? ⟨w.heap.size + 1, 1, none⟩ = false := frozen_of_box y1
  have f2 : w1.frozen? ⟨w.heap.size + 1, 2, none⟩ = false := frozen_of_box y1
  have f3 : w1.frozen? ⟨w.heap.size + 1, 3, none⟩ = false := frozen_of_box y1
  clear h1 hb y0 y1 sz2 B2
  go_wp2
  refine bodyPost_ret (v := .agg #[.string x.holder, .int .i64 x.kind, .slice ad1 x.secs.length c1, .int .i64 x.state]) (by simp [results, Tryz.results65, go_sem, q0, q1, q2, q3]) rfl ⟨ad1, c1, G1, rfl, fun p => ?_, ?_⟩
  · obtain ⟨t1, t2, t3⟩ := HR.out.1 p
    refine ⟨t1, by omega, ?_⟩
    repeat (refine pre_other ?_ _ _ (by omega) _)
    exact t3
  · have t4 := HR.out.2
    repeat (refine below_set ?_ _ _ (by omega) _)
    exact t4
structure Start (w W2 wc : World) (B : Bk) (P : Nat) (adL : Option Addr) (cL GL : Nat) (adC : Option Addr) (cC GC : Nat) : Prop where
  box : wc.heap[P]? = some (.cells #[.int .i64 B.n, .slice none 0 0, .slice adL B.locked.length cL, .slice adC B.occ.length cC] 37 (0, 0))
  lo : w.heap.size + 2 ≤ P
  L : OwnBools wc (w.heap.size + 2) adL B.locked.length (fun i => B.locked.getD i false) GL
  C : OwnBools wc (w.heap.size + 2) adC B.occ.length (fun i => B.occ.getD i false) GC
  lp : 0 < B.locked.length → GL ≠ P
  cp : 0 < B.occ.length → GC ≠ P
  lc : 0 < B.locked.length → 0 < B.occ.length → GL ≠ GC
  bel : Below (w.heap.size + 2) W2 wc
theorem box_put4 {w : World} {P : Nat} {z0 z1 z2 z3 a b c d : Value} {t : TypeId} (h : w.heap[P]? = some (.cells #[z0, z1, z2, z3] t (0, 0))) : ((((w.setCell ⟨P, 0, none⟩ a).setCell ⟨P, 1, none⟩ b).setCell ⟨P, 2, none⟩ c).setCell ⟨P, 3, none⟩ d).heap[P]? = some (.cells #[a, b, c, d] t (0, 0)) :=
  (box_set (box_set (box_set (box_set h _) _) _) _).trans rfl
theorem start_put {w W2 w2 : World} {B : Bk} {P : Nat} {adL : Option Addr} {cL GL : Nat} {adC : Option Addr} {cC GC : Nat} {z0 z1 z2 z3 : Value} (y : w2.heap[P]? = some (.cells #[z0, z1, z2, z3] 37 (0, 0))) (lo : w.heap.size + 2 ≤ P)
    (L : OwnBools w2 (w.heap.size + 2) adL B.locked.length (fun i => B.locked.getD i false) GL) (C : OwnBools w2 (w.heap.size + 2) adC B.occ.length (fun i => B.occ.getD i false) GC)
    (lp : 0 < B.locked.length → GL ≠ P) (cp : 0 < B.occ.length → GC ≠ P) (lc : 0 < B.locked.length → 0 < B.occ.length → GL ≠ GC) (bel : Below (w.heap.size + 2) W2 w2) :
    Start w W2 ((((w2.setCell ⟨P, 0, none⟩ (.int .i64 B.n)).setCell ⟨P, 1, none⟩ (.slice none 0 0)).setCell ⟨P, 2, none⟩ (.slice adL B.locked.length cL)).setCell ⟨P, 3, none⟩ (.slice adC B.occ.length cC)) B P adL cL GL adC cC GC :=
  ⟨box_put4 y, lo, (((L.setOther (a := ⟨P, 0, none⟩) lp _).setOther (a := ⟨P, 1, none⟩) lp _).setOther (a := ⟨P, 2, none⟩) lp _).setOther (a := ⟨P, 3, none⟩) lp _, (((C.setOther (a := ⟨P, 0, none⟩) cp _).setOther (a := ⟨P, 1, none⟩) cp _).setOther (a := ⟨P, 2, none⟩) cp _).setOther (a := ⟨P, 3, none⟩) cp _, lp, cp, lc,
    below_set (below_set (below_set (below_set bel _ _ lo _) _ _ lo _) _ _ lo _) _ _ lo _⟩
theorem start_new {w W2 w1 w2 : World} {B : Bk} {adL : Option Addr} {cL GL : Nat} {adC : Option Addr} {cC GC : Nat} (hW : W2.heap.size = w.heap.size + 2)
    (HL : OwnBools w1 W2.drew.heap.size adL B.locked.length (fun i => B.locked.getD i false) GL ∧ Below W2.drew.heap.size W2.drew w1) (HC : OwnBools w2 w1.heap.size adC B.occ.length (fun i => B.occ.getD i false) GC ∧ Below w1.heap.size w1 w2) :
    Start w W2 (w2.alloc (.cells #[.int .i64 B.n, .slice none 0 0, .slice adL B.locked.length cL, .slice adC B.occ.length cC] 37)) B w2.heap.size adL cL GL adC cC GC := by
  have hd : W2.drew.heap.size = w.heap.size + 2 := hW
  rw [hd] at HL
  have z1 := HL.2.size
  have z2 := HC.2.size
  have b1 : Below (w.heap.size + 2) W2 w1 := (Below.refl _ _).drew.trans HL.2
  have hL1 : 0 < B.locked.length → GL < w1.heap.size := fun p => (HL.1.row p).lt
  have hC1 : 0 < B.occ.length → GC < w2.heap.size := fun p => (HC.1.row p).lt
  rw [hd] at z1
  refine ⟨Deep.blk_alloc_new _ _, by omega, (HL.1.below HC.2).below (below1 _ _), (HC.1.mono z1).below (below1 _ _), fun p => by have := hL1 p; omega, fun p => by have := hC1 p; omega, fun p q => by have := hL1 p; have := HC.1.low q; omega, (b1.trans (HC.2.mono z1)).alloc (by omega) _⟩
theorem start_mid {w W2 w1 w2 : World} {B : Bk} {adL : Option Addr} {cL GL : Nat} {adC : Option Addr} {cC GC : Nat} {z0 z1 z2 z3 : Value} (hW : W2.heap.size = w.heap.size + 2)
    (HL : OwnBools w1 W2.drew.heap.size adL B.locked.length (fun i => B.locked.getD i false) GL ∧ Below W2.drew.heap.size W2.drew w1) (HC : OwnBools w2 (w1.alloc (.cells #[z0, z1, z2, z3] 37)).heap.size adC B.occ.length (fun i => B.occ.getD i false) GC ∧ Below (w1.alloc (.cells #[z0, z1, z2, z3] 37)).heap.size (w1.alloc (.cells #[z0, z1, z2, z3] 37)) w2) :
    Start w W2 ((((w2.setCell ⟨w1.heap.size, 0, none⟩ (.int .i64 B.n)).setCell ⟨w1.heap.size, 1, none⟩ (.slice none 0 0)).setCell ⟨w1.heap.size, 2, none⟩ (.slice adL B.locked.length cL)).setCell ⟨w1.heap.size, 3, none⟩ (.slice adC B.occ.length cC)) B w1.heap.size adL cL GL adC cC GC := by
  have hd : W2.drew.heap.size = w.heap.size + 2 := hW
  have hd2 : (w1.alloc (.cells #[z0, z1, z2, z3] 37)).heap.size = w1.heap.size + 1 := by simp
  rw [hd] at HL
  have z1 := HL.2.size
  rw [hd] at z1
  have b1 : Below (w.heap.size + 2) W2 w1 := (Below.refl _ _).drew.trans HL.2
  have hL1 : 0 < B.locked.length → GL < w1.heap.size := fun p => (HL.1.row p).lt
  have hC1 : 0 < B.occ.length → w1.heap.size + 1 ≤ GC := fun p => by have := HC.1.low p; omega
  have b2 : Below w1.heap.size w1 w2 := (below1 _ _).trans (HC.2.mono (by omega))
  exact start_put ((HC.2.block _ (by omega)).trans (Deep.blk_alloc_new _ _)) z1 (HL.1.below b2) (HC.1.mono (by omega)) (fun p => by have := hL1 p; omega) (fun p => by have := hC1 p; omega) (fun p q => by have := hL1 p; have := hC1 q; omega) (b1.trans (b2.mono z1))
theorem start_old {w W2 w1 w2 : World} {B : Bk} {adL : Option Addr} {cL GL : Nat} {adC : Option Addr} {cC GC : Nat} {z0 z1 z2 z3 : Value} (hW : W2.heap.size = w.heap.size + 2)
    (HL : OwnBools w1 (W2.drew.alloc (.cells #[z0, z1, z2, z3] 37)).heap.size adL B.locked.length (fun i => B.locked.getD i false) GL ∧ Below (W2.drew.alloc (.cells #[z0, z1, z2, z3] 37)).heap.size (W2.drew.alloc (.cells #[z0, z1, z2, z3] 37)) w1) (HC : OwnBools w2 w1.heap.size adC B.occ.length (fun i => B.occ.getD i false) GC ∧ Below w1.heap.size w1 w2) :
    Start w W2 ((((w2.setCell ⟨w.heap.size + 1 + 1, 0, none⟩ (.int .i64 B.n)).setCell ⟨w.heap.size + 1 + 1, 1, none⟩ (.slice none 0 0)).setCell ⟨w.heap.size + 1 + 1, 2, none⟩ (.slice adL B.locked.length cL)).setCell ⟨w.heap.size + 1 + 1, 3, none⟩ (.slice adC B.occ.length cC)) B (w.heap.size + 1 + 1) adL cL GL adC cC GC := by
  have hd : W2.drew.heap.size = w.heap.size + 2 := hW
  have hd2 : (W2.drew.alloc (.cells #[z0, z1, z2, z3] 37)).heap.size = w.heap.size + 3 := by
    have t : (W2.drew.alloc (.cells #[z0, z1, z2, z3] 37)).heap.size = W2.drew.heap.size + 1 := by simp
    omega
  rw [hd2] at HL
  have zA := HL.2.size
  rw [hd2] at zA
  have b1 : Below (w.heap.size + 2) W2 w1 := ((Below.refl _ _).drew.alloc (by rw [hd]; exact Nat.le_refl _) _).trans (HL.2.mono (by omega))
  have hL1 : 0 < B.locked.length → GL < w1.heap.size := fun p => (HL.1.row p).lt
  have hL0 : 0 < B.locked.length → w.heap.size + 3 ≤ GL := fun p => HL.1.low p
  have hC1 : 0 < B.occ.length → w1.heap.size ≤ GC := fun p => HC.1.low p
  have y : w1.heap[w.heap.size + 1 + 1]? = some (.cells #[z0, z1, z2, z3] 37 (0, 0)) := (HL.2.block _ (by omega)).trans (by have := Deep.blk_alloc_new W2.drew (.cells #[z0, z1, z2, z3] 37); rw [hd] at this; exact this)
  exact start_put ((HC.2.block _ (by omega)).trans y) (by omega) ((HL.1.below HC.2).mono (by omega)) (HC.1.mono (by omega)) (fun p => by have := hL0 p; omega) (fun p => by have := hC1 p; omega) (fun p q => by have := hL1 p; have := hC1 q; omega) (b1.trans (HC.2.mono (by omega)))
set_option maxHeartbeats 8000000 in
theorem copyBook_any (v : Value) (B : Bk) (w : World) (ho : B.orders.length ≤ 1048576) (hs : ∀ i, i < B.orders.length → (bX B i).secs.length ≤ 1048576) (hl : B.locked.length ≤ 1048576) (hc : B.occ.length ≤ 1048576) (G : BookAt w v B) :
    Calls Tryz.prog 28 #[v] w fun e w' => ∃ v', e = .returned v' ∧ (∃ K, RowBook w' w.heap.size v' B K) ∧ Below w.heap.size w w' := by
  obtain ⟨ao, co, al, cl, ac, cc, rfl, ⟨b, o, hd, g⟩, CL, CC⟩ := G
  have g' : ∀ i, i < B.orders.length → ∃ sa sc, OrdAt w b (o + i * 4) (bX B i) sa sc := g
  have HC : Hid (Cells w al B.locked.length (bV B.locked) ∧ Cells w ac B.occ.length (bV B.occ)) := ⟨CL, CC⟩
  clear g CL CC
  obtain ⟨io, hio, zo0, zo1, zo2⟩ := info_parts Tryz.infoOrder
  go_enter Tryz.func28, Tryz.ntmps28
  have B2 : Below w.heap.size w ((w.alloc (.cells #[.int .i64 B.n, .slice ao B.orders.length co, .slice al B.locked.length cl, .slice ac B.occ.length cc] 37)).alloc (.cells #[.int .i64 0, .slice none 0 0, .slice none 0 0, .slice none 0 0] 37)) := below2 _ _ _
  go_wp2
  go_cut [3] (fun t wc => ∃ (P : Nat) (adL : Option Addr) (cL GL : Nat) (adC : Option Addr) (cC GC : Nat), t = .pointer (some ⟨P, 0, none⟩) ∧ Start w ((w.alloc (.cells #[.int .i64 B.n, .slice ao B.orders.length co, .slice al B.locked.length cl, .slice ac B.occ.length cc] 37)).alloc (.cells #[.int .i64 0, .slice none 0 0, .slice none 0 0, .slice none 0 0] 37)) wc B P adL cL GL adC cC GC)
  case first =>
    rename_i J0 K0 hJ0 hK0
    refine wp_region_held_drew (S := (fun w' => w'.cell? ⟨w.heap.size, 0, none⟩ = some (.int .i64 B.n) ∧ w'.cell? ⟨w.heap.size, 2, none⟩ = some (.slice al B.locked.length cl) ∧ w'.cell? ⟨w.heap.size, 3, none⟩ = some (.slice ac B.occ.length cc))) (by kernel_rfl) (by simp [go_sem]) (fun hS0 => ?_)
    refine tk 0 rfl ?_; refine tk 1 rfl ?_; refine tk 2 rfl ?_; refine tk 3 rfl ?_; refine tk 5 rfl ?_; refine tk 6 rfl ?_
    refine wpAnyH_ready (rs := [4, 9]) (by kernel_rfl) (by simp) ?_
    refine AllReadyH.cons rfl (fun K hK => ?_) (AllReadyH.cons rfl (fun K hK => ?_) (AllReadyH.nil))
    · skip
      go_simp
      refine (copyBools_any al cl B.locked.length (fun i => B.locked.getD i false) _ hl (HC.out.1.below (B2.drew))).mono ?_
      rintro e w1 ⟨adL, cL, GL, rfl, hL, hbL⟩
      have HL : Hid (OwnBools w1 ((w.alloc (.cells #[.int .i64 B.n, .slice ao B.orders.length co, .slice al B.locked.length cl, .slice ac B.occ.length cc] 37)).alloc (.cells #[.int .i64 0, .slice none 0 0, .slice none 0 0, .slice none 0 0] 37)).drew.heap.size adL B.locked.length (fun i => B.locked.getD i false) GL ∧ Below ((w.alloc (.cells #[.int .i64 B.n, .slice ao B.orders.length co, .slice al B.locked.length cl, .slice ac B.occ.length cc] 37)).alloc (.cells #[.int .i64 0, .slice none 0 0, .slice none 0 0, .slice none 0 0] 37)).drew.heap.size ((w.alloc (.cells #[.int .i64 B.n, .slice ao B.orders.length co, .slice al B.locked.length cl, .slice ac B.occ.length cc] 37)).alloc (.cells #[.int .i64 0, .slice none 0 0, .slice none 0 0, .slice none 0 0] 37)).drew w1) := ⟨hL, hbL⟩
      obtain ⟨hcx, -⟩ := bcell hbL
      refine hK.out _ _ ⟨(hcx _ _ (by simp; omega)).trans hS0.1, (hcx _ _ (by simp; omega)).trans hS0.2.1, (hcx _ _ (by simp; omega)).trans hS0.2.2⟩ (fun hS1 => ?_)
      clear hK K hcx
      have z1 : w.heap.size + 2 ≤ w1.heap.size := by have := HL.out.2.size; simp at this; omega
      clear hL hbL
      refine wpAnyH_ready (rs := [7, 9]) (by kernel_rfl) (by simp) ?_
      refine AllReadyH.cons rfl (fun K hK => ?_) (AllReadyH.cons rfl (fun K hK => ?_) (AllReadyH.nil))
      · skip
        go_simp
        refine (copyBools_any ac cc B.occ.length (fun i => B.occ.getD i false) _ hc (HC.out.2.below (below_trans B2.drew B2.drew.size HL.out.2))).mono ?_
        rintro e w2 ⟨adC, cC, GC, rfl, hC, hbC⟩
        have HC2 : Hid (OwnBools w2 w1.heap.size adC B.occ.length (fun i => B.occ.getD i false) GC ∧ Below w1.heap.size w1 w2) := ⟨hC, hbC⟩
        obtain ⟨hcx, -⟩ := bcell hbC
        refine hK.out _ _ ⟨(hcx _ _ (by omega)).trans hS1.1, (hcx _ _ (by omega)).trans hS1.2.1, (hcx _ _ (by omega)).trans hS1.2.2⟩ (fun hS2 => ?_)
        clear hK K hcx
        clear hC hbC
        refine tk 8 rfl ?_
        refine wpAnyH_ready (rs := [9]) (by kernel_rfl) (by simp) ?_
        refine AllReadyH.cons rfl (fun K hK => ?_) (AllReadyH.nil)
        go_simp
        refine hK.out _ _ ⟨by simp [hS2, World.cell?_alloc_some], by simp [hS2, World.cell?_alloc_some], by simp [hS2, World.cell?_alloc_some]⟩ (fun hS3 => ?_)
        clear hK K
        refine wpAnyH_ready (rs := [10]) (by kernel_rfl) (by simp) ?_
        refine AllReadyH.cons rfl (fun K hK => ?_) (AllReadyH.nil)
        go_simp
        refine hK.out _ _ ⟨by simp [hS2, World.cell?_alloc_some], by simp [hS2, World.cell?_alloc_some], by simp [hS2, World.cell?_alloc_some]⟩ (fun hS4 => ?_)
        clear hK K
        refine wpAnyH_done (by kernel_rfl) ?_ _
        go_simp
        refine hK0 _ _ (Met.intro (hJ0 _ _ ?_))
        (repeat apply Exists.intro)
        refine ⟨?rel, rfl⟩
        case rel =>
          exact ⟨_, _, _, _, _, _, _, rfl, start_new (by simp) HL.out HC2.out⟩
      · skip
        go_simp
        refine hK.out _ _ ⟨by simp [hS1, World.cell?_alloc_some], by simp [hS1, World.cell?_alloc_some], by simp [hS1, World.cell?_alloc_some]⟩ (fun hS2 => ?_)
        clear hK K
        refine wpAnyH_ready (rs := [7]) (by kernel_rfl) (by simp) ?_
        refine AllReadyH.cons rfl (fun K hK => ?_) (AllReadyH.nil)
        go_simp
        refine (copyBools_any ac cc B.occ.length (fun i => B.occ.getD i false) _ hc (HC.out.2.below ((below_trans B2.drew B2.drew.size HL.out.2).alloc (by omega) _))).mono ?_
        rintro e w2 ⟨adC, cC, GC, rfl, hC, hbC⟩
        have HC2 : Hid (OwnBools w2 (w1.alloc (.cells #[.int .i64 0, .slice none 0 0, .slice none 0 0, .slice none 0 0] 37)).heap.size adC B.occ.length (fun i => B.occ.getD i false) GC ∧ Below (w1.alloc (.cells #[.int .i64 0, .slice none 0 0, .slice none 0 0, .slice none 0 0] 37)).heap.size (w1.alloc (.cells #[.int .i64 0, .slice none 0 0, .slice none 0 0, .slice none 0 0] 37)) w2) := ⟨hC, hbC⟩
        obtain ⟨hcx, -⟩ := bcell hbC
        refine hK.out _ _ ⟨(hcx _ _ (by simp; omega)).trans hS2.1, (hcx _ _ (by simp; omega)).trans hS2.2.1, (hcx _ _ (by simp; omega)).trans hS2.2.2⟩ (fun hS3 => ?_)
        clear hK K hcx
        have y : w2.heap[w1.heap.size]? = some (.cells #[.int .i64 0, .slice none 0 0, .slice none 0 0, .slice none 0 0] 37 (0, 0)) := (hbC.block _ (by simp)).trans (Deep.blk_alloc_new _ _)
        obtain ⟨q0, q1, q2, q3⟩ := box_cells y
        have f0 : w2.frozen? ⟨w1.heap.size, 0, none⟩ = false := frozen_of_box y
        have f1 : w2.frozen? ⟨w1.heap.size, 1, none⟩ = false := frozen_of_box y
        have f2 : w2.frozen? ⟨w1.heap.size, 2, none⟩ = false := frozen_of_box y
        have f3 : w2.frozen? ⟨w1.heap.size, 3, none⟩ = false := frozen_of_box y
        clear hC hbC y
        refine tk 8 rfl ?_
        refine wpAnyH_ready (rs := [10]) (by kernel_rfl) (by simp) ?_
        refine AllReadyH.cons rfl (fun K hK => ?_) (AllReadyH.nil)
        go_simp
        refine hK.out _ _ ⟨by simp [hS3, go_sem], by simp [hS3, go_sem], by simp [hS3, go_sem]⟩ (fun hS4 => ?_)
        clear hK K
        refine wpAnyH_done (by kernel_rfl) ?_ _
        go_simp
        refine hK0 _ _ (Met.intro (hJ0 _ _ ?_))
        (repeat apply Exists.intro)
        refine ⟨?rel, rfl⟩
        case rel =>
          exact ⟨_, _, _, _, _, _, _, rfl, start_mid (by simp) HL.out HC2.out⟩
    · skip
      go_simp
      refine hK.out _ _ ⟨by simp [World.cell?_alloc_some], by simp [World.cell?_alloc_some], by simp [World.cell?_alloc_some]⟩ (fun hS1 => ?_)
      clear hK K
      refine wpAnyH_ready (rs := [4]) (by kernel_rfl) (by simp) ?_
      refine AllReadyH.cons rfl (fun K hK => ?_) (AllReadyH.nil)
      go_simp
      refine (copyBools_any al cl B.locked.length (fun i => B.locked.getD i false) _ hl (HC.out.1.below (B2.drew.alloc (by simp; omega) _))).mono ?_
      rintro e w1 ⟨adL, cL, GL, rfl, hL, hbL⟩
      have HL : Hid (OwnBools w1 (((w.alloc (.cells #[.int .i64 B.n, .slice ao B.orders.length co, .slice al B.locked.length cl, .slice ac B.occ.length cc] 37)).alloc (.cells #[.int .i64 0, .slice none 0 0, .slice none 0 0, .slice none 0 0] 37)).drew.alloc (.cells #[.int .i64 0, .slice none 0 0, .slice none 0 0, .slice none 0 0] 37)).heap.size adL B.locked.length (fun i => B.locked.getD i false) GL ∧ Below (((w.alloc (.cells #[.int .i64 B.n, .slice ao B.orders.length co, .slice al B.locked.length cl, .slice ac B.occ.length cc] 37)).alloc (.cells #[.int .i64 0, .slice none 0 0, .slice none 0 0, .slice none 0 0] 37)).drew.alloc (.cells #[.int .i64 0, .slice none 0 0, .slice none 0 0, .slice none 0 0] 37)).heap.size (((w.alloc (.cells #[.int .i64 B.n, .slice ao B.orders.length co, .slice al B.locked.length cl, .slice ac B.occ.length cc] 37)).alloc (.cells #[.int .i64 0, .slice none 0 0, .slice none 0 0, .slice none 0 0] 37)).drew.alloc (.cells #[.int .i64 0, .slice none 0 0, .slice none 0 0, .slice none 0 0] 37)) w1) := ⟨hL, hbL⟩
      obtain ⟨hcx, -⟩ := bcell hbL
      refine hK.out _ _ ⟨(hcx _ _ (by simp; omega)).trans hS1.1, (hcx _ _ (by simp; omega)).trans hS1.2.1, (hcx _ _ (by simp; omega)).trans hS1.2.2⟩ (fun hS2 => ?_)
      clear hK K hcx
      have z1 : w.heap.size + 3 ≤ w1.heap.size := by have := HL.out.2.size; simp at this; omega
      clear hL hbL
      refine wpAnyH_ready (rs := [7]) (by kernel_rfl) (by simp) ?_
      refine AllReadyH.cons rfl (fun K hK => ?_) (AllReadyH.nil)
      go_simp
      refine (copyBools_any ac cc B.occ.length (fun i => B.occ.getD i false) _ hc (HC.out.2.below (below_trans (B2.drew.alloc (by simp; omega) _) (B2.drew.alloc (by simp; omega) _).size HL.out.2))).mono ?_
      rintro e w2 ⟨adC, cC, GC, rfl, hC, hbC⟩
      have HC2 : Hid (OwnBools w2 w1.heap.size adC B.occ.length (fun i => B.occ.getD i false) GC ∧ Below w1.heap.size w1 w2) := ⟨hC, hbC⟩
      obtain ⟨hcx, -⟩ := bcell hbC
      refine hK.out _ _ ⟨(hcx _ _ (by omega)).trans hS2.1, (hcx _ _ (by omega)).trans hS2.2.1, (hcx _ _ (by omega)).trans hS2.2.2⟩ (fun hS3 => ?_)
      clear hK K hcx
      have y : w2.heap[w.heap.size + 1 + 1]? = some (.cells #[.int .i64 0, .slice none 0 0, .slice none 0 0, .slice none 0 0] 37 (0, 0)) := (hbC.block _ (by omega)).trans ((HL.out.2.block _ (by simp)).trans (by have := Deep.blk_alloc_new ((w.alloc (.cells #[.int .i64 B.n, .slice ao B.orders.length co, .slice al B.locked.length cl, .slice ac B.occ.length cc] 37)).alloc (.cells #[.int .i64 0, .slice none 0 0, .slice none 0 0, .slice none 0 0] 37)).drew (.cells #[.int .i64 0, .slice none 0 0, .slice none 0 0, .slice none 0 0] 37); simpa using this))
      obtain ⟨q0, q1, q2, q3⟩ := box_cells y
      have f0 : w2.frozen? ⟨w.heap.size + 1 + 1, 0, none⟩ = false := frozen_of_box y
      have f1 : w2.frozen? ⟨w.heap.size + 1 + 1, 1, none⟩ = false := frozen_of_box y
      have f2 : w2.frozen? ⟨w.heap.size + 1 + 1, 2, none⟩ = false := frozen_of_box y
      have f3 : w2.frozen? ⟨w.heap.size + 1 + 1, 3, none⟩ = false := frozen_of_box y
      clear hC hbC y
      refine tk 8 rfl ?_
      refine wpAnyH_ready (rs := [10]) (by kernel_rfl) (by simp) ?_
      refine AllReadyH.cons rfl (fun K hK => ?_) (AllReadyH.nil)
      go_simp
      refine hK.out _ _ ⟨by simp [hS3, go_sem], by simp [hS3, go_sem], by simp [hS3, go_sem]⟩ (fun hS4 => ?_)
      clear hK K
      refine wpAnyH_done (by kernel_rfl) ?_ _
      go_simp
      refine hK0 _ _ (Met.intro (hJ0 _ _ ?_))
      (repeat apply Exists.intro)
      refine ⟨?rel, rfl⟩
      case rel =>
        exact ⟨_, _, _, _, _, _, _, rfl, start_old (by simp) HL.out HC2.out⟩
  case rest =>
    obtain ⟨P, adL, cL, GL, adC, cC, GC, rfl, hst⟩ := hcut
    have HD : Hid (Start w ((w.alloc (.cells #[.int .i64 B.n, .slice ao B.orders.length co, .slice al B.locked.length cl, .slice ac B.occ.length cc] 37)).alloc (.cells #[.int .i64 0, .slice none 0 0, .slice none 0 0, .slice none 0 0] 37)) wc B P adL cL GL adC cC GC) := hst
    have szW : ((w.alloc (.cells #[.int .i64 B.n, .slice ao B.orders.length co, .slice al B.locked.length cl, .slice ac B.occ.length cc] 37)).alloc (.cells #[.int .i64 0, .slice none 0 0, .slice none 0 0, .slice none 0 0] 37)).heap.size = w.heap.size + 2 := by simp
    have a0 : ((w.alloc (.cells #[.int .i64 B.n, .slice ao B.orders.length co, .slice al B.locked.length cl, .slice ac B.occ.length cc] 37)).alloc (.cells #[.int .i64 0, .slice none 0 0, .slice none 0 0, .slice none 0 0] 37)).heap[w.heap.size]? = some (.cells #[.int .i64 B.n, .slice ao B.orders.length co, .slice al B.locked.length cl, .slice ac B.occ.length cc] 37 (0, 0)) := (Deep.blk_alloc_lt _ _ _ (by simp)).trans (Deep.blk_alloc_new _ _)
    have a1 : ((w.alloc (.cells #[.int .i64 B.n, .slice ao B.orders.length co, .slice al B.locked.length cl, .slice ac B.occ.length cc] 37)).alloc (.cells #[.int .i64 0, .slice none 0 0, .slice none 0 0, .slice none 0 0] 37)).heap[w.heap.size + 1]? = some (.cells #[.int .i64 0, .slice none 0 0, .slice none 0 0, .slice none 0 0] 37 (0, 0)) := by
      have := Deep.blk_alloc_new (w.alloc (.cells #[.int .i64 B.n, .slice ao B.orders.length co, .slice al B.locked.length cl, .slice ac B.occ.length cc] 37)) (.cells #[.int .i64 0, .slice none 0 0, .slice none 0 0, .slice none 0 0] 37)
      simpa using this
    have x0 : wc.heap[w.heap.size]? = some (.cells #[.int .i64 B.n, .slice ao B.orders.length co, .slice al B.locked.length cl, .slice ac B.occ.length cc] 37 (0, 0)) := (hst.bel.block _ (by omega)).trans a0
    have x1 : wc.heap[w.heap.size + 1]? = some (.cells #[.int .i64 0, .slice none 0 0, .slice none 0 0, .slice none 0 0] 37 (0, 0)) := (hst.bel.block _ (by omega)).trans a1
    have bC : Below w.heap.size w wc := B2.trans (hst.bel.mono (by omega))
    have zP : w.heap.size + 2 ≤ P := hst.lo
    have zP2 : P < wc.heap.size := (Array.getElem?_eq_some_iff.1 hst.box).1
    have HE : Hid (wc.heap[w.heap.size + 1]? = some (.cells #[.int .i64 0, .slice none 0 0, .slice none 0 0, .slice none 0 0] 37 (0, 0)) ∧ Below w.heap.size w wc) := ⟨x1, bC⟩
    obtain ⟨m0, m1, m2, m3⟩ := box_cells x0
    clear hst a0 a1 x0 x1 bC szW
    go_wp2
    obtain ⟨O, hO⟩ : ∃ O, O = B.orders.length := ⟨_, rfl⟩
    have HO : Hid (O = B.orders.length) := hO
    rw [← hO] at ho hs hd g' ⊢
    clear hO m0 m1 m2 m3
    go_loopw [18] (fun i wr => ∃ (k : Nat) (u : Value) (gs : Nat → Nat) (sa : Nat → Option Addr) (sc : Nat → Nat), k ≤ O ∧ i = .int .i64 k ∧ Below w.heap.size w wr ∧ wr.heap[w.heap.size + 1]? = some (.cells #[.int .i64 0, .slice none 0 0, .slice none 0 0, .slice none 0 0] 37 (0, 0)) ∧ wr.heap[P]? = some (.cells #[.int .i64 B.n, u, .slice adL B.locked.length cL, .slice adC B.occ.length cC] 37 (0, 0)) ∧ RowOrds wr wc.heap.size u k (bX B) gs sa sc ∧ OwnBools wr (w.heap.size + 2) adL B.locked.length (fun i => B.locked.getD i false) GL ∧ OwnBools wr (w.heap.size + 2) adC B.occ.length (fun i => B.occ.getD i false) GC ∧ wc.heap.size ≤ wr.heap.size) (fun i _ => O - (intOf i).toNat)
    case atStart => exact ⟨0, _, fun _ => 0, fun _ => none, fun _ => 0, Nat.zero_le _, rfl, HE.out.2, HE.out.1, HD.out.box, RowOrds.start _ _ _ _ _ _, HD.out.L, HD.out.C, Nat.le_refl _⟩
    case round =>
      obtain ⟨k, u, gs, sa, sc, hk, rfl, hb, r1, r2, hrow, hL, hC, hz⟩ := hrel
      by_cases hlt : k < O
      · obtain rfl := hd (by omega)
        obtain ⟨sk, ck, q⟩ := g' k hlt
        have hsk := hs k hlt
        obtain ⟨x0, x1, x2, x3, x4⟩ := q.below hb
        have HX : Hid (Cells wr sk (bX B k).secs.length (iV (bX B k).secs)) := x4
        have HR : Hid (RowOrds wr wc.heap.size u k (bX B) gs sa sc ∧ OwnBools wr (w.heap.size + 2) adL B.locked.length (fun i => B.locked.getD i false) GL ∧ OwnBools wr (w.heap.size + 2) adC B.occ.length (fun i => B.occ.getD i false) GC ∧ wr.heap[w.heap.size + 1]? = some (.cells #[.int .i64 0, .slice none 0 0, .slice none 0 0, .slice none 0 0] 37 (0, 0)) ∧ wr.heap[P]? = some (.cells #[.int .i64 B.n, u, .slice adL B.locked.length cL, .slice adC B.occ.length cC] 37 (0, 0)) ∧ Below w.heap.size w wr) := ⟨hrow, hL, hC, r1, r2, hb⟩
        have oP : wr.cell? ⟨P, 1, none⟩ = some u := cell_of_box r2 rfl
        have zPr : P < wr.heap.size := by omega
        have zPn : ¬ P = wr.heap.size := by omega
        clear q g' hs hd x4 hrow hL hC r1 r2 hb
        go_wp2
        clear x0 x1 x2 x3
        have S1 : Below wr.heap.size wr (wr.alloc (.cells #[.string (bX B k).holder, .int .i64 (bX B k).kind, .slice sk (bX B k).secs.length ck, .int .i64 (bX B k).state] 41)).drew := (below1 _ _).drew
        have sz1 : (wr.alloc (.cells #[.string (bX B k).holder, .int .i64 (bX B k).kind, .slice sk (bX B k).secs.length ck, .int .i64 (bX B k).state] 41)).drew.heap.size = wr.heap.size + 1 := alloc_size _ _
        have oP0 : (wr.alloc (.cells #[.string (bX B k).holder, .int .i64 (bX B k).kind, .slice sk (bX B k).secs.length ck, .int .i64 (bX B k).state] 41)).cell? ⟨P, 1, none⟩ = some u := by simp [oP, World.cell?_alloc_some]
        have HS1 : Hid (Below wr.heap.size wr (wr.alloc (.cells #[.string (bX B k).holder, .int .i64 (bX B k).kind, .slice sk (bX B k).secs.length ck, .int .i64 (bX B k).state] 41)).drew ∧ (wr.alloc (.cells #[.string (bX B k).holder, .int .i64 (bX B k).kind, .slice sk (bX B k).secs.length ck, .int .i64 (bX B k).state] 41)).drew.heap.size = wr.heap.size + 1) := ⟨S1, sz1⟩
        clear S1 sz1
        refine wp_region_any (by kernel_rfl) ?_
        change wpAny _ _ _ _ _ _ _ (World.drew _)
        refine wpAny_take (i := 0) (v := ?_) rfl (by kernel_rfl) (by kernel_rfl) (by kernel_rfl) (fun _ _ _ h => h) (Or.inl ⟨by kernel_rfl, ?_⟩) ?_
        rotate_left 1
        · (intro w; go_simp; try (with_reducible rfl))
        refine wpAny_ready (rs := [1, 2]) (by kernel_rfl) (by simp) ?_
        refine AllReady.cons rfl (fun K hK => ?_) (AllReady.cons rfl (fun K hK => ?_) (AllReady.nil))
        · skip
          go_simp
          refine hK _ _ ?_
          clear hK K
          refine wpAny_ready (rs := [2]) (by kernel_rfl) (by simp) ?_
          refine AllReady.cons rfl (fun K hK => ?_) (AllReady.nil)
          go_simp
          refine hK _ _ ?_
          clear hK K
          refine wpAny_ready (rs := [3]) (by kernel_rfl) (by simp) ?_
          refine AllReady.cons rfl (fun K hK => ?_) (AllReady.nil)
          go_simp
          refine (copyOrder_any (bX B k) sk ck _ hsk (HX.out.below HS1.out.1)).mono ?_
          rintro e wS ⟨adS, cS, GS, rfl, hGS, hbS⟩
          rw [HS1.out.2] at hGS hbS
          have bwS : Below wr.heap.size wr wS := HS1.out.1.trans (hbS.mono (by omega))
          have zS : wr.heap.size + 1 ≤ wS.heap.size := by have := hbS.size; have := HS1.out.2; omega
          have oS : wS.cell? ⟨P, 1, none⟩ = some u := (hbS.cell (p := ⟨P, 1, none⟩) (by show P < _; omega)).trans oP0
          have HY : Hid ((0 < (bX B k).secs.length → adS = some ⟨GS, 0, none⟩ ∧ wr.heap.size + 1 ≤ GS ∧ Pre wS GS 3 (bX B k).secs.length (iV (bX B k).secs)) ∧ Below wr.heap.size wr wS) := ⟨hGS, bwS⟩
          refine hK _ _ ?_
          clear hK K hGS hbS bwS
          refine wpAny_ready (rs := [4]) (by kernel_rfl) (by simp) ?_
          refine AllReady.cons rfl (fun K hK => ?_) (AllReady.nil)
          go_simp
          refine hK _ _ ?_
          clear hK K
          refine wpAny_ready (rs := [5]) (by kernel_rfl) (by simp) ?_
          refine AllReady.cons rfl (fun K hK => ?_) (AllReady.nil)
          have S4 : Below wr.heap.size wr (wS.alloc (.cells #[.string (bX B k).holder, .int .i64 (bX B k).kind, .slice adS (bX B k).secs.length cS, .int .i64 (bX B k).state] 41)) := HY.out.2.alloc (by omega) _
          have R4 := HR.out.1.below S4
          have n4 : ∀ j u', (cellsOf (bX B k) adS cS)[j]? = some u' → (wS.alloc (.cells #[.string (bX B k).holder, .int .i64 (bX B k).kind, .slice adS (bX B k).secs.length cS, .int .i64 (bX B k).state] 41)).cell? ((⟨wS.heap.size, 0, none⟩ : Addr).add j) = some u' := by
            have hn := Deep.blk_alloc_new wS (.cells #[.string (bX B k).holder, .int .i64 (bX B k).kind, .slice adS (bX B k).secs.length cS, .int .i64 (bX B k).state] 41)
            intro j u' hu
            rw [add0]
            refine cell_of_box hn ?_
            rw [← Array.getElem?_toList]
            exact hu
          refine wp_append_row _ _ 34 rfl wc.heap.size 41 io _ 4 56 Tryz.underlying34 hio zo0 zo1 zo2 rfl (by decide) u k (flat (bX B) sa sc k) rfl R4.row ⟨wS.heap.size, 0, none⟩ 1 1 (cellsOf (bX B k) adS cS) rfl rfl n4 ?_ (by unfold maxLen; omega) (by omega) (by simp; omega) ?_
          · intro x hx
            simp only [cellsOf, List.mem_cons, List.not_mem_nil, or_false] at hx
            rcases hx with rfl | rfl | rfl | rfl <;> rfl
          intro vU wU hownU hgU _ hbU
          have z4 : (wS.alloc (.cells #[.string (bX B k).holder, .int .i64 (bX B k).kind, .slice adS (bX B k).secs.length cS, .int .i64 (bX B k).state] 41)).heap.size = wS.heap.size + 1 := alloc_size _ _
          have push := RowOrds.push R4 (bX B k) GS adS cS (fun p => by
            obtain ⟨t1, t2, t3⟩ := HY.out.1 p
            refine ⟨t1, t3.of_block (Deep.blk_alloc_lt _ _ _ t3.lt), by omega, fun e => ?_, fun i hi hp => ?_⟩
            · have := (owns_lt HR.out.1.row e).2; omega
            · have := (HR.out.1.sec i hi hp).2.1.lt; omega) hownU hgU hbU
          rw [put1_same] at push
          obtain ⟨adU, cU, GU, rfl, -, -⟩ := push.own
          have bU : Below wc.heap.size (wS.alloc (.cells #[.string (bX B k).holder, .int .i64 (bX B k).kind, .slice adS (bX B k).secs.length cS, .int .i64 (bX B k).state] 41)) wU := grown_below hgU (fun g hg => (owns_lt R4.row hg).1) (by rw [z4]; omega)
          have y1U : wU.heap[w.heap.size + 1]? = some (.cells #[.int .i64 0, .slice none 0 0, .slice none 0 0, .slice none 0 0] 37 (0, 0)) := (bU.block _ (by omega)).trans ((S4.block _ (by omega)).trans HR.out.2.2.2.1)
          have y2U : wU.heap[P]? = some (.cells #[.int .i64 B.n, u, .slice adL B.locked.length cL, .slice adC B.occ.length cC] 37 (0, 0)) := (bU.block _ zP2).trans ((S4.block _ zPr).trans HR.out.2.2.2.2.1)
          have bwU : Below w.heap.size w wU := (below_trans HR.out.2.2.2.2.2 HR.out.2.2.2.2.2.size S4).trans (bU.mono (by omega))
          have HU : Hid (RowOrds wU wc.heap.size (.slice adU (k + 1) cU) (k + 1) (bX B) (put1 gs k GS) (put1 sa k adS) (put1 sc k cS) ∧ wU.heap[w.heap.size + 1]? = some (.cells #[.int .i64 0, .slice none 0 0, .slice none 0 0, .slice none 0 0] 37 (0, 0)) ∧ wU.heap[P]? = some (.cells #[.int .i64 B.n, u, .slice adL B.locked.length cL, .slice adC B.occ.length cC] 37 (0, 0)) ∧ Below w.heap.size w wU ∧ OwnBools wU (w.heap.size + 2) adL B.locked.length (fun i => B.locked.getD i false) GL ∧ OwnBools wU (w.heap.size + 2) adC B.occ.length (fun i => B.occ.getD i false) GC ∧ wc.heap.size ≤ wU.heap.size) :=
            ⟨push, y1U, y2U, bwU, (HR.out.2.1.below S4).ofBlock (fun p => bU.block _ (HD.out.L.row p).lt), (HR.out.2.2.1.below S4).ofBlock (fun p => bU.block _ (HD.out.C.row p).lt), by have := bU.size; omega⟩
          have oU : wU.cell? ⟨P, 1, none⟩ = some u := cell_of_box y2U rfl
          have fU : wU.frozen? ⟨P, 1, none⟩ = false := frozen_of_box y2U
          refine hK _ _ ?_
          clear hK K push hownU hgU hbU z4 bU y1U y2U bwU HY HR S4 R4 n4 oS oP oP0
          refine wpAny_take (i := 6) (v := ?_) rfl (by kernel_rfl) (by kernel_rfl) (by kernel_rfl) (fun _ _ _ h => h) (Or.inl ⟨by kernel_rfl, ?_⟩) ?_
          rotate_left 1
          · (intro w; go_simp; try (with_reducible rfl))
          refine wpAny_ready (rs := [7]) (by kernel_rfl) (by simp) ?_
          refine AllReady.cons rfl (fun K hK => ?_) (AllReady.nil)
          go_simp
          refine hK _ _ ?_
          clear hK K oU fU
          refine wpAny_end (by kernel_rfl) ?_
          go_simp
          go_wp2
          go_roundw
          case rel =>
            obtain ⟨t1, t2, t3, t4, t5, t6, t7⟩ := HU.out
            exact ⟨k + 1, _, put1 gs k GS, put1 sa k adS, put1 sc k cS, by omega, by go_num, below_set t4 _ _ (by omega) _, (box_other (by omega) _).trans t2, (box_set t3 _).trans rfl, t1.setLow _ _ (by omega) _, t5.setOther (a := ⟨P, 1, none⟩) HD.out.lp _, t6.setOther (a := ⟨P, 1, none⟩) HD.out.cp _, by simp [World.setCell]; omega⟩
          case measure => simp [intOf]; omega
        · skip
          go_simp
          refine hK _ _ ?_
          clear hK K
          refine wpAny_ready (rs := [1, 3]) (by kernel_rfl) (by simp) ?_
          refine AllReady.cons rfl (fun K hK => ?_) (AllReady.cons rfl (fun K hK => ?_) (AllReady.nil))
          · skip
            go_simp
            refine hK _ _ ?_
            clear hK K
            refine wpAny_ready (rs := [3]) (by kernel_rfl) (by simp) ?_
            refine AllReady.cons rfl (fun K hK => ?_) (AllReady.nil)
            go_simp
            refine (copyOrder_any (bX B k) sk ck _ hsk (HX.out.below HS1.out.1)).mono ?_
            rintro e wS ⟨adS, cS, GS, rfl, hGS, hbS⟩
            rw [HS1.out.2] at hGS hbS
            have bwS : Below wr.heap.size wr wS := HS1.out.1.trans (hbS.mono (by omega))
            have zS : wr.heap.size + 1 ≤ wS.heap.size := by have := hbS.size; have := HS1.out.2; omega
            have oS : wS.cell? ⟨P, 1, none⟩ = some u := (hbS.cell (p := ⟨P, 1, none⟩) (by show P < _; omega)).trans oP0
            have HY : Hid ((0 < (bX B k).secs.length → adS = some ⟨GS, 0, none⟩ ∧ wr.heap.size + 1 ≤ GS ∧ Pre wS GS 3 (bX B k).secs.length (iV (bX B k).secs)) ∧ Below wr.heap.size wr wS) := ⟨hGS, bwS⟩
            refine hK _ _ ?_
            clear hK K hGS hbS bwS
            refine wpAny_ready (rs := [4]) (by kernel_rfl) (by simp) ?_
            refine AllReady.cons rfl (fun K hK => ?_) (AllReady.nil)
            go_simp
            refine hK _ _ ?_
            clear hK K
            refine wpAny_ready (rs := [5]) (by kernel_rfl) (by simp) ?_
            refine AllReady.cons rfl (fun K hK => ?_) (AllReady.nil)
            have S4 : Below wr.heap.size wr (wS.alloc (.cells #[.string (bX B k).holder, .int .i64 (bX B k).kind, .slice adS (bX B k).secs.length cS, .int .i64 (bX B k).state] 41)) := HY.out.2.alloc (by omega) _
            have R4 := HR.out.1.below S4
            have n4 : ∀ j u', (cellsOf (bX B k) adS cS)[j]? = some u' → (wS.alloc (.cells #[.string (bX B k).holder, .int .i64 (bX B k).kind, .slice adS (bX B k).secs.length cS, .int .i64 (bX B k).state] 41)).cell? ((⟨wS.heap.size, 0, none⟩ : Addr).add j) = some u' := by
              have hn := Deep.blk_alloc_new wS (.cells #[.string (bX B k).holder, .int .i64 (bX B k).kind, .slice adS (bX B k).secs.length cS, .int .i64 (bX B k).state] 41)
              intro j u' hu
              rw [add0]
              refine cell_of_box hn ?_
              rw [← Array.getElem?_toList]
              exact hu
            refine wp_append_row _ _ 34 rfl wc.heap.size 41 io _ 4 56 Tryz.underlying34 hio zo0 zo1 zo2 rfl (by decide) u k (flat (bX B) sa sc k) rfl R4.row ⟨wS.heap.size, 0, none⟩ 1 1 (cellsOf (bX B k) adS cS) rfl rfl n4 ?_ (by unfold maxLen; omega) (by omega) (by simp; omega) ?_
            · intro x hx
              simp only [cellsOf, List.mem_cons, List.not_mem_nil, or_false] at hx
              rcases hx with rfl | rfl | rfl | rfl <;> rfl
            intro vU wU hownU hgU _ hbU
            have z4 : (wS.alloc (.cells #[.string (bX B k).holder, .int .i64 (bX B k).kind, .slice adS (bX B k).secs.length cS, .int .i64 (bX B k).state] 41)).heap.size = wS.heap.size + 1 := alloc_size _ _
            have push := RowOrds.push R4 (bX B k) GS adS cS (fun p => by
              obtain ⟨t1, t2, t3⟩ := HY.out.1 p
              refine ⟨t1, t3.of_block (Deep.blk_alloc_lt _ _ _ t3.lt), by omega, fun e => ?_, fun i hi hp => ?_⟩
              · have := (owns_lt HR.out.1.row e).2; omega
              · have := (HR.out.1.sec i hi hp).2.1.lt; omega) hownU hgU hbU
            rw [put1_same] at push
            obtain ⟨adU, cU, GU, rfl, -, -⟩ := push.own
            have bU : Below wc.heap.size (wS.alloc (.cells #[.string (bX B k).holder, .int .i64 (bX B k).kind, .slice adS (bX B k).secs.length cS, .int .i64 (bX B k).state] 41)) wU := grown_below hgU (fun g hg => (owns_lt R4.row hg).1) (by rw [z4]; omega)
            have y1U : wU.heap[w.heap.size + 1]? = some (.cells #[.int .i64 0, .slice none 0 0, .slice none 0 0, .slice none 0 0] 37 (0, 0)) := (bU.block _ (by omega)).trans ((S4.block _ (by omega)).trans HR.out.2.2.2.1)
            have y2U : wU.heap[P]? = some (.cells #[.int .i64 B.n, u, .slice adL B.locked.length cL, .slice adC B.occ.length cC] 37 (0, 0)) := (bU.block _ zP2).trans ((S4.block _ zPr).trans HR.out.2.2.2.2.1)
            have bwU : Below w.heap.size w wU := (below_trans HR.out.2.2.2.2.2 HR.out.2.2.2.2.2.size S4).trans (bU.mono (by omega))
            have HU : Hid (RowOrds wU wc.heap.size (.slice adU (k + 1) cU) (k + 1) (bX B) (put1 gs k GS) (put1 sa k adS) (put1 sc k cS) ∧ wU.heap[w.heap.size + 1]? = some (.cells #[.int .i64 0, .slice none 0 0, .slice none 0 0, .slice none 0 0] 37 (0, 0)) ∧ wU.heap[P]? = some (.cells #[.int .i64 B.n, u, .slice adL B.locked.length cL, .slice adC B.occ.length cC] 37 (0, 0)) ∧ Below w.heap.size w wU ∧ OwnBools wU (w.heap.size + 2) adL B.locked.length (fun i => B.locked.getD i false) GL ∧ OwnBools wU (w.heap.size + 2) adC B.occ.length (fun i => B.occ.getD i false) GC ∧ wc.heap.size ≤ wU.heap.size) :=
              ⟨push, y1U, y2U, bwU, (HR.out.2.1.below S4).ofBlock (fun p => bU.block _ (HD.out.L.row p).lt), (HR.out.2.2.1.below S4).ofBlock (fun p => bU.block _ (HD.out.C.row p).lt), by have := bU.size; omega⟩
            have oU : wU.cell? ⟨P, 1, none⟩ = some u := cell_of_box y2U rfl
            have fU : wU.frozen? ⟨P, 1, none⟩ = false := frozen_of_box y2U
            refine hK _ _ ?_
            clear hK K push hownU hgU hbU z4 bU y1U y2U bwU HY HR S4 R4 n4 oS oP oP0
            refine wpAny_take (i := 6) (v := ?_) rfl (by kernel_rfl) (by kernel_rfl) (by kernel_rfl) (fun _ _ _ h => h) (Or.inl ⟨by kernel_rfl, ?_⟩) ?_
            rotate_left 1
            · (intro w; go_simp; try (with_reducible rfl))
            refine wpAny_ready (rs := [7]) (by kernel_rfl) (by simp) ?_
            refine AllReady.cons rfl (fun K hK => ?_) (AllReady.nil)
            go_simp
            refine hK _ _ ?_
            clear hK K oU fU
            refine wpAny_end (by kernel_rfl) ?_
            go_simp
            go_wp2
            go_roundw
            case rel =>
              obtain ⟨t1, t2, t3, t4, t5, t6, t7⟩ := HU.out
              exact ⟨k + 1, _, put1 gs k GS, put1 sa k adS, put1 sc k cS, by omega, by go_num, below_set t4 _ _ (by omega) _, (box_other (by omega) _).trans t2, (box_set t3 _).trans rfl, t1.setLow _ _ (by omega) _, t5.setOther (a := ⟨P, 1, none⟩) HD.out.lp _, t6.setOther (a := ⟨P, 1, none⟩) HD.out.cp _, by simp [World.setCell]; omega⟩
            case measure => simp [intOf]; omega
          · skip
            go_simp
            refine (copyOrder_any (bX B k) sk ck _ hsk (HX.out.below HS1.out.1)).mono ?_
            rintro e wS ⟨adS, cS, GS, rfl, hGS, hbS⟩
            rw [HS1.out.2] at hGS hbS
            have bwS : Below wr.heap.size wr wS := HS1.out.1.trans (hbS.mono (by omega))
            have zS : wr.heap.size + 1 ≤ wS.heap.size := by have := hbS.size; have := HS1.out.2; omega
            have oS : wS.cell? ⟨P, 1, none⟩ = some u := (hbS.cell (p := ⟨P, 1, none⟩) (by show P < _; omega)).trans oP0
            have HY : Hid ((0 < (bX B k).secs.length → adS = some ⟨GS, 0, none⟩ ∧ wr.heap.size + 1 ≤ GS ∧ Pre wS GS 3 (bX B k).secs.length (iV (bX B k).secs)) ∧ Below wr.heap.size wr wS) := ⟨hGS, bwS⟩
            refine hK _ _ ?_
            clear hK K hGS hbS bwS
            refine wpAny_ready (rs := [1, 4]) (by kernel_rfl) (by simp) ?_
            refine AllReady.cons rfl (fun K hK => ?_) (AllReady.cons rfl (fun K hK => ?_) (AllReady.nil))
            · skip
              go_simp
              refine hK _ _ ?_
              clear hK K
              refine wpAny_ready (rs := [4]) (by kernel_rfl) (by simp) ?_
              refine AllReady.cons rfl (fun K hK => ?_) (AllReady.nil)
              go_simp
              refine hK _ _ ?_
              clear hK K
              refine wpAny_ready (rs := [5]) (by kernel_rfl) (by simp) ?_
              refine AllReady.cons rfl (fun K hK => ?_) (AllReady.nil)
              have S4 : Below wr.heap.size wr (wS.alloc (.cells #[.string (bX B k).holder, .int .i64 (bX B k).kind, .slice adS (bX B k).secs.length cS, .int .i64 (bX B k).state] 41)) := HY.out.2.alloc (by omega) _
              have R4 := HR.out.1.below S4
              have n4 : ∀ j u', (cellsOf (bX B k) adS cS)[j]? = some u' → (wS.alloc (.cells #[.string (bX B k).holder, .int .i64 (bX B k).kind, .slice adS (bX B k).secs.length cS, .int .i64 (bX B k).state] 41)).cell? ((⟨wS.heap.size, 0, none⟩ : Addr).add j) = some u' := by
                have hn := Deep.blk_alloc_new wS (.cells #[.string (bX B k).holder, .int .i64 (bX B k).kind, .slice adS (bX B k).secs.length cS, .int .i64 (bX B k).state] 41)
                intro j u' hu
                rw [add0]
                refine cell_of_box hn ?_
                rw [← Array.getElem?_toList]
                exact hu
              refine wp_append_row _ _ 34 rfl wc.heap.size 41 io _ 4 56 Tryz.underlying34 hio zo0 zo1 zo2 rfl (by decide) u k (flat (bX B) sa sc k) rfl R4.row ⟨wS.heap.size, 0, none⟩ 1 1 (cellsOf (bX B k) adS cS) rfl rfl n4 ?_ (by unfold maxLen; omega) (by omega) (by simp; omega) ?_
              · intro x hx
                simp only [cellsOf, List.mem_cons, List.not_mem_nil, or_false] at hx
                rcases hx with rfl | rfl | rfl | rfl <;> rfl
              intro vU wU hownU hgU _ hbU
              have z4 : (wS.alloc (.cells #[.string (bX B k).holder, .int .i64 (bX B k).kind, .slice adS (bX B k).secs.length cS, .int .i64 (bX B k).state] 41)).heap.size = wS.heap.size + 1 := alloc_size _ _
              have push := RowOrds.push R4 (bX B k) GS adS cS (fun p => by
                obtain ⟨t1, t2, t3⟩ := HY.out.1 p
                refine ⟨t1, t3.of_block (Deep.blk_alloc_lt _ _ _ t3.lt), by omega, fun e => ?_, fun i hi hp => ?_⟩
                · have := (owns_lt HR.out.1.row e).2; omega
                · have := (HR.out.1.sec i hi hp).2.1.lt; omega) hownU hgU hbU
              rw [put1_same] at push
              obtain ⟨adU, cU, GU, rfl, -, -⟩ := push.own
              have bU : Below wc.heap.size (wS.alloc (.cells #[.string (bX B k).holder, .int .i64 (bX B k).kind, .slice adS (bX B k).secs.length cS, .int .i64 (bX B k).state] 41)) wU := grown_below hgU (fun g hg => (owns_lt R4.row hg).1) (by rw [z4]; omega)
              have y1U : wU.heap[w.heap.size + 1]? = some (.cells #[.int .i64 0, .slice none 0 0, .slice none 0 0, .slice none 0 0] 37 (0, 0)) := (bU.block _ (by omega)).trans ((S4.block _ (by omega)).trans HR.out.2.2.2.1)
              have y2U : wU.heap[P]? = some (.cells #[.int .i64 B.n, u, .slice adL B.locked.length cL, .slice adC B.occ.length cC] 37 (0, 0)) := (bU.block _ zP2).trans ((S4.block _ zPr).trans HR.out.2.2.2.2.1)
              have bwU : Below w.heap.size w wU := (below_trans HR.out.2.2.2.2.2 HR.out.2.2.2.2.2.size S4).trans (bU.mono (by omega))
              have HU : Hid (RowOrds wU wc.heap.size (.slice adU (k + 1) cU) (k + 1) (bX B) (put1 gs k GS) (put1 sa k adS) (put1 sc k cS) ∧ wU.heap[w.heap.size + 1]? = some (.cells #[.int .i64 0, .slice none 0 0, .slice none 0 0, .slice none 0 0] 37 (0, 0)) ∧ wU.heap[P]? = some (.cells #[.int .i64 B.n, u, .slice adL B.locked.length cL, .slice adC B.occ.length cC] 37 (0, 0)) ∧ Below w.heap.size w wU ∧ OwnBools wU (w.heap.size + 2) adL B.locked.length (fun i => B.locked.getD i false) GL ∧ OwnBools wU (w.heap.size + 2) adC B.occ.length (fun i => B.occ.getD i false) GC ∧ wc.heap.size ≤ wU.heap.size) :=
                ⟨push, y1U, y2U, bwU, (HR.out.2.1.below S4).ofBlock (fun p => bU.block _ (HD.out.L.row p).lt), (HR.out.2.2.1.below S4).ofBlock (fun p => bU.block _ (HD.out.C.row p).lt), by have := bU.size; omega⟩
              have oU : wU.cell? ⟨P, 1, none⟩ = some u := cell_of_box y2U rfl
              have fU : wU.frozen? ⟨P, 1, none⟩ = false := frozen_of_box y2U
              refine hK _ _ ?_
              clear hK K push hownU hgU hbU z4 bU y1U y2U bwU HY HR S4 R4 n4 oS oP oP0
              refine wpAny_take (i := 6) (v := ?_) rfl (by kernel_rfl) (by kernel_rfl) (by kernel_rfl) (fun _ _ _ h => h) (Or.inl ⟨by kernel_rfl, ?_⟩) ?_
              rotate_left 1
              · (intro w; go_simp; try (with_reducible rfl))
              refine wpAny_ready (rs := [7]) (by kernel_rfl) (by simp) ?_
              refine AllReady.cons rfl (fun K hK => ?_) (AllReady.nil)
              go_simp
              refine hK _ _ ?_
              clear hK K oU fU
              refine wpAny_end (by kernel_rfl) ?_
              go_simp
              go_wp2
              go_roundw
              case rel =>
                obtain ⟨t1, t2, t3, t4, t5, t6, t7⟩ := HU.out
                exact ⟨k + 1, _, put1 gs k GS, put1 sa k adS, put1 sc k cS, by omega, by go_num, below_set t4 _ _ (by omega) _, (box_other (by omega) _).trans t2, (box_set t3 _).trans rfl, t1.setLow _ _ (by omega) _, t5.setOther (a := ⟨P, 1, none⟩) HD.out.lp _, t6.setOther (a := ⟨P, 1, none⟩) HD.out.cp _, by simp [World.setCell]; omega⟩
              case measure => simp [intOf]; omega
            · skip
              go_simp
              refine hK _ _ ?_
              clear hK K
              refine wpAny_ready (rs := [1]) (by kernel_rfl) (by simp) ?_
              refine AllReady.cons rfl (fun K hK => ?_) (AllReady.nil)
              have oS4 : (wS.alloc (.cells #[.string (bX B k).holder, .int .i64 (bX B k).kind, .slice adS (bX B k).secs.length cS, .int .i64 (bX B k).state] 41)).cell? ⟨P, 1, none⟩ = some u := by simp [oS, World.cell?_alloc_some]
              go_simp
              refine hK _ _ ?_
              clear hK K
              clear oS4
              refine wpAny_ready (rs := [5]) (by kernel_rfl) (by simp) ?_
              refine AllReady.cons rfl (fun K hK => ?_) (AllReady.nil)
              have S4 : Below wr.heap.size wr (wS.alloc (.cells #[.string (bX B k).holder, .int .i64 (bX B k).kind, .slice adS (bX B k).secs.length cS, .int .i64 (bX B k).state] 41)) := HY.out.2.alloc (by omega) _
              have R4 := HR.out.1.below S4
              have n4 : ∀ j u', (cellsOf (bX B k) adS cS)[j]? = some u' → (wS.alloc (.cells #[.string (bX B k).holder, .int .i64 (bX B k).kind, .slice adS (bX B k).secs.length cS, .int .i64 (bX B k).state] 41)).cell? ((⟨wS.heap.size, 0, none⟩ : Addr).add j) = some u' := by
                have hn := Deep.blk_alloc_new wS (.cells #[.string (bX B k).holder, .int .i64 (bX B k).kind, .slice adS (bX B k).secs.length cS, .int .i64 (bX B k).state] 41)
                intro j u' hu
                rw [add0]
                refine cell_of_box hn ?_
                rw [← Array.getElem?_toList]
                exact hu
              refine wp_append_row _ _ 34 rfl wc.heap.size 41 io _ 4 56 Tryz.underlying34 hio zo0 zo1 zo2 rfl (by decide) u k (flat (bX B) sa sc k) rfl R4.row ⟨wS.heap.size, 0, none⟩ 1 1 (cellsOf (bX B k) adS cS) rfl rfl n4 ?_ (by unfold maxLen; omega) (by omega) (by simp; omega) ?_
              · intro x hx
                simp only [cellsOf, List.mem_cons, List.not_mem_nil, or_false] at hx
                rcases hx with rfl | rfl | rfl | rfl <;> rfl
              intro vU wU hownU hgU _ hbU
              have z4 : (wS.alloc (.cells #[.string (bX B k).holder, .int .i64 (bX B k).kind, .slice adS (bX B k).secs.length cS, .int .i64 (bX B k).state] 41)).heap.size = wS.heap.size + 1 := alloc_size _ _
              have push := RowOrds.push R4 (bX B k) GS adS cS (fun p => by
                obtain ⟨t1, t2, t3⟩ := HY.out.1 p
                refine ⟨t1, t3.of_block (Deep.blk_alloc_lt _ _ _ t3.lt), by omega, fun e => ?_, fun i hi hp => ?_⟩
                · have := (owns_lt HR.out.1.row e).2; omega
                · have := (HR.out.1.sec i hi hp).2.1.lt; omega) hownU hgU hbU
              rw [put1_same] at push
              obtain ⟨adU, cU, GU, rfl, -, -⟩ := push.own
              have bU : Below wc.heap.size (wS.alloc (.cells #[.string (bX B k).holder, .int .i64 (bX B k).kind, .slice adS (bX B k).secs.length cS, .int .i64 (bX B k).state] 41)) wU := grown_below hgU (fun g hg => (owns_lt R4.row hg).1) (by rw [z4]; omega)
              have y1U : wU.heap[w.heap.size + 1]? = some (.cells #[.int .i64 0, .slice none 0 0, .slice none 0 0, .slice none 0 0] 37 (0, 0)) := (bU.block _ (by omega)).trans ((S4.block _ (by omega)).trans HR.out.2.2.2.1)
              have y2U : wU.heap[P]? = some (.cells #[.int .i64 B.n, u, .slice adL B.locked.length cL, .slice adC B.occ.length cC] 37 (0, 0)) := (bU.block _ zP2).trans ((S4.block _ zPr).trans HR.out.2.2.2.2.1)
              have bwU : Below w.heap.size w wU := (below_trans HR.out.2.2.2.2.2 HR.out.2.2.2.2.2.size S4).trans (bU.mono (by omega))
              have HU : Hid (RowOrds wU wc.heap.size (.slice adU (k + 1) cU) (k + 1) (bX B) (put1 gs k GS) (put1 sa k adS) (put1 sc k cS) ∧ wU.heap[w.heap.size + 1]? = some (.cells #[.int .i64 0, .slice none 0 0, .slice none 0 0, .slice none 0 0] 37 (0, 0)) ∧ wU.heap[P]? = some (.cells #[.int .i64 B.n, u, .slice adL B.locked.length cL, .slice adC B.occ.length cC] 37 (0, 0)) ∧ Below w.heap.size w wU ∧ OwnBools wU (w.heap.size + 2) adL B.locked.length (fun i => B.locked.getD i false) GL ∧ OwnBools wU (w.heap.size + 2) adC B.occ.length (fun i => B.occ.getD i false) GC ∧ wc.heap.size ≤ wU.heap.size) :=
                ⟨push, y1U, y2U, bwU, (HR.out.2.1.below S4).ofBlock (fun p => bU.block _ (HD.out.L.row p).lt), (HR.out.2.2.1.below S4).ofBlock (fun p => bU.block _ (HD.out.C.row p).lt), by have := bU.size; omega⟩
              have oU : wU.cell? ⟨P, 1, none⟩ = some u := cell_of_box y2U rfl
              have fU : wU.frozen? ⟨P, 1, none⟩ = false := frozen_of_box y2U
              refine hK _ _ ?_
              clear hK K push hownU hgU hbU z4 bU y1U y2U bwU HY HR S4 R4 n4 oS oP oP0
              refine wpAny_take (i := 6) (v := ?_) rfl (by kernel_rfl) (by kernel_rfl) (by kernel_rfl) (fun _ _ _ h => h) (Or.inl ⟨by kernel_rfl, ?_⟩) ?_
              rotate_left 1
              · (intro w; go_simp; try (with_reducible rfl))
              refine wpAny_ready (rs := [7]) (by kernel_rfl) (by simp) ?_
              refine AllReady.cons rfl (fun K hK => ?_) (AllReady.nil)
              go_simp
              refine hK _ _ ?_
              clear hK K oU fU
              refine wpAny_end (by kernel_rfl) ?_
              go_simp
              go_wp2
              go_roundw
              case rel =>
                obtain ⟨t1, t2, t3, t4, t5, t6, t7⟩ := HU.out
                exact ⟨k + 1, _, put1 gs k GS, put1 sa k adS, put1 sc k cS, by omega, by go_num, below_set t4 _ _ (by omega) _, (box_other (by omega) _).trans t2, (box_set t3 _).trans rfl, t1.setLow _ _ (by omega) _, t5.setOther (a := ⟨P, 1, none⟩) HD.out.lp _, t6.setOther (a := ⟨P, 1, none⟩) HD.out.cp _, by simp [World.setCell]; omega⟩
              case measure => simp [intOf]; omega
      · obtain rfl : k = O := by omega
        have HR : Hid (RowOrds wr wc.heap.size u k (bX B) gs sa sc ∧ OwnBools wr (w.heap.size + 2) adL B.locked.length (fun i => B.locked.getD i false) GL ∧ OwnBools wr (w.heap.size + 2) adC B.occ.length (fun i => B.occ.getD i false) GC ∧ Below w.heap.size w wr) := ⟨hrow, hL, hC, hb⟩
        obtain ⟨adU, cU, GU, rfl, -, -⟩ := hrow.own
        obtain ⟨o0, o1, o2, o3⟩ := box_cells r2
        obtain ⟨q0, q1, q2, q3⟩ := box_cells r1
        have f0 : wr.frozen? ⟨w.heap.size + 1, 0, none⟩ = false := frozen_of_box r1
        have f1 : wr.frozen? ⟨w.heap.size + 1, 1, none⟩ = false := frozen_of_box r1
        have f2 : wr.frozen? ⟨w.heap.size + 1, 2, none⟩ = false := frozen_of_box r1
        have f3 : wr.frozen? ⟨w.heap.size + 1, 3, none⟩ = false := frozen_of_box r1
        clear g' hs hd hrow hL hC hb r1 r2
        go_wp2
        refine bodyPost_ret (v := .agg #[.int .i64 B.n, .slice adU k cU, .slice adL B.locked.length cL, .slice adC B.occ.length cC]) (by simp [results, Tryz.results28, go_sem, q0, q1, q2, q3]) rfl ⟨_, rfl, ?_, ?_⟩
        · obtain ⟨t1, t2, t3, t4⟩ := HR.out
          rw [HO.out] at t1 ⊢
          refine rowBook_mk (H := wc.heap.size) (GL := GL) (GC := GC) (gs := gs) (sa := sa) (sc := sc) ?_ (by omega) ?_ ?_ (fun p => (HD.out.L.row p).lt) (fun p => (HD.out.C.row p).lt) HD.out.lc
          · repeat (refine RowOrds.setLow ?_ _ _ (by omega) _)
            exact t1
          · refine OwnBools.mono (lo := w.heap.size + 2) ?_ (by omega)
            repeat (refine OwnBools.setOther ?_ (fun p => by have := t2.low p; show GL ≠ w.heap.size + 1; omega) _)
            exact t2
          · refine OwnBools.mono (lo := w.heap.size + 2) ?_ (by omega)
            repeat (refine OwnBools.setOther ?_ (fun p => by have := t3.low p; show GC ≠ w.heap.size + 1; omega) _)
            exact t3
        · have t4 := HR.out.2.2.2
          repeat (refine below_set ?_ _ _ (by omega) _)
          exact t4
end Go.Proofs.YtdlaekjofgbjcaaGreatDoor