/-
  The law FnHeld: the walk. Mine, by program (wip/lheld.py), by template (wip/gen.py).
-/
import Derived.Test.YtfbpkoboccickaaDoorRanZ
import Derived.Test.YtfbpkoboccickaaDoorEvZ
namespace Go.Proofs.YtfbpkoboccickaaDoor
open Go.RowKit

theorem text_same {B : Bk} {k : Nat} {a b : ByteArray} (hB : Right B) (hk : k < B.orders.length) (h : TextIs B (k : Int) (bl a)) (o : OrdT B k (bl b)) : b = a := by
  rcases h with ⟨n, _⟩ | ⟨_, j, hj, _, o2⟩
  · exact absurd ⟨hB, by omega, by omega⟩ n
  · obtain rfl : k = j := by omega
    exact bl_inj (o.det o2)
theorem text_other {B : Bk} {k : Nat} {a b : ByteArray} (hB : Right B) (hk : k < B.orders.length) (h : TextIs B (k : Int) (bl a)) (o : ¬ OrdT B k (bl b)) : b ≠ a := by
  rcases h with ⟨n, _⟩ | ⟨_, j, hj, _, o2⟩
  · exact absurd ⟨hB, by omega, by omega⟩ n
  · obtain rfl : k = j := by omega
    intro e
    rw [e] at o
    exact o o2

set_option maxRecDepth 20000 in
set_option maxHeartbeats 16000000 in
theorem fnHeld_walk (A : Nat → Addr) (ad : Option Addr) (c n : Nat) (V : Nat → UInt8) (w : World) (hE : Errs w A) (hT : Lib.TabIs Tryd.prog w "internal/strconv.uint64pow10" .u64 Lib.pow10Tab) (G : BytesAt w ad n V) :
    Calls Tryd.prog 3 #[.slice ad n c] w fun e w' => e = .returned (.bool true) ∧ Below w.heap.size w w' := by
  have HG : Hid (BytesAt w ad n V ∧ Errs w A ∧ Lib.TabIs Tryd.prog w "internal/strconv.uint64pow10" .u64 Lib.pow10Tab) := ⟨G, hE, hT⟩
  clear G hE hT
  go_enter Tryd.func3, Tryd.ntmps3
  by_cases hbig : 1048576 < n
  · have t : (1048576 : Int) < (n : Int) := by omega
    go_wp2
    go_ret
    exact ⟨rfl, Below.refl _ _⟩
  have hn : n ≤ 1048576 := by omega
  have tb : ¬ (1048576 : Int) < (n : Int) := by omega
  clear hbig
  go_wp2_with fail
  refine (drawn_any ad n c V w hn HG.out.1).mono ?_
  rintro e w1 ⟨m, adX, N, cX, X, rfl, hm1, hm9, hN, hX, hsm, hb1⟩
  have H1 : Hid (EventsAt w1 adX N X ∧ (∀ i, i < N → SmallO (X i)) ∧ Below w.heap.size w w1) := ⟨hX, hsm, hb1⟩
  clear hX hsm hb1
  go_wp2_with fail
  refine (implBegin_any m w1).mono ?_
  rintro e w2 ⟨v, rfl, ⟨K0, hB0⟩, hb2⟩
  obtain ⟨ao, co, al, cl, ac, cc, hv, -⟩ := hB0.shape
  subst hv
  have H2 : Hid (OwnBook w2 w1.heap.size (bookV (beginBk m) ⟨ao, co, al, cl, ac, cc⟩) (beginBk m) K0 ∧ Below w1.heap.size w1 w2) := ⟨hB0, hb2⟩
  clear hB0 hb2
  go_wp2_with fail
  have B3 := below1 w2 (.cells #[.int .i64 (beginBk m).n, .slice ao (beginBk m).orders.length co, .slice al (beginBk m).locked.length cl, .slice ac (beginBk m).occ.length cc] 29)
  have b1 : Below w1.heap.size w1 (w2.alloc (.cells #[.int .i64 (beginBk m).n, .slice ao (beginBk m).orders.length co, .slice al (beginBk m).locked.length cl, .slice ac (beginBk m).occ.length cc] 29)) := H2.out.2.alloc H2.out.2.size _
  have b0 := below_trans H1.out.2.2 H1.out.2.2.size b1
  refine (implRun_any A m adX cX N X _ (HG.out.2.1.below b0) (tab_below HG.out.2.2 b0) (by omega) (fun i hi => ⟨Nat.le_trans (H1.out.2.1 i hi).1 (by decide), Nat.le_trans (H1.out.2.1 i hi).2.1 (by decide), Nat.le_trans (H1.out.2.1 i hi).2.2 (by decide)⟩) (H1.out.1.below b1)).mono ?_
  rintro e w3 ⟨M, adD, cD, GD, sl, KD, hM, rfl, haD, hD, hb3⟩
  obtain rfl : M = N := by
    rcases hM with h | h
    · exact h.2
    · exact absurd ⟨⟨hm1, by omega⟩, by omega⟩ h.1
  have s2 : (w2.alloc (.cells #[.int .i64 (beginBk m).n, .slice ao (beginBk m).orders.length co, .slice al (beginBk m).locked.length cl, .slice ac (beginBk m).occ.length cc] 29)).heap.size = w2.heap.size + 1 := alloc_size _ _
  have RN : Ran w w1 w3 w2.heap.size adX M X m GD ⟨ao, co, al, cl, ac, cc⟩ K0 sl KD := by
    rw [s2] at hD
    exact ⟨⟨hm1, hm9⟩, hN, H1.out.2.1, H1.out.1, H2.out.2.size, below_trans b1 b1.size hb3, hD, ((H2.out.1.below B3).below hb3).mono (Nat.zero_le _), fun x hx => H2.out.1.blocks_lt hx, (hb3.block _ (by omega)).trans (Deep.blk_alloc_new _ _), below_trans b0 b0.size hb3, Nat.le_trans H1.out.2.2.size H2.out.2.size⟩
  have HR : Hid (Ran w w1 w3 w2.heap.size adX M X m GD ⟨ao, co, al, cl, ac, cc⟩ K0 sl KD ∧ (0 < M → adD = some ⟨GD, 0, none⟩)) := ⟨RN, haD⟩
  clear RN haD hD hb3 hM B3 b0 b1 H1 H2 HG s2
  obtain ⟨P, hP⟩ : ∃ P, P = w2.heap.size := ⟨_, rfl⟩
  rw [← hP] at HR
  go_wp2
  rw [← hP]
  clear hP
  go_loopw [34] (fun i wr => ∃ k : Nat, k ≤ M ∧ i = .int .i64 k ∧ Fr (fun x => x = P) w3 wr ∧ wr.heap[P]? = some (.cells #[.int .i64 (rB (beginBk m) X k).n, .slice (sAt ⟨ao, co, al, cl, ac, cc⟩ sl k).ao (rB (beginBk m) X k).orders.length (sAt ⟨ao, co, al, cl, ac, cc⟩ sl k).co, .slice (sAt ⟨ao, co, al, cl, ac, cc⟩ sl k).al (rB (beginBk m) X k).locked.length (sAt ⟨ao, co, al, cl, ac, cc⟩ sl k).cl, .slice (sAt ⟨ao, co, al, cl, ac, cc⟩ sl k).ac (rB (beginBk m) X k).occ.length (sAt ⟨ao, co, al, cl, ac, cc⟩ sl k).cc] 29 (0, 0))) (fun i _ => M - (intOf i).toNat)
  case atStart => exact ⟨0, Nat.zero_le _, rfl, Fr.refl _ _, HR.out.1.bx⟩
  case round =>
    obtain ⟨k, hk, rfl, hf, hbx⟩ := hrel
    by_cases hlt : k < M
    · skip
      obtain ⟨wo, hwo⟩ : ∃ wo, wo = wr := ⟨_, rfl⟩
      rw [← hwo] at hf hbx ⊢
      clear hwo
      obtain ⟨b, oo, h2, g⟩ := HR.out.1.event hf
      obtain rfl := h2 (by omega)
      obtain rfl := HR.out.2 (by omega)
      obtain ⟨sa, sc, q⟩ := g k hlt
      have dc := HR.out.1.done hf hlt
      have ob0 := HR.out.1.book hf (k := k) (by omega)
      have ob1 := HR.out.1.book hf (k := k + 1) (by omega)
      have hR0 := HR.out.1.right k
      have hR1 := HR.out.1.right (k + 1)
      have hS0 := HR.out.1.small k
      have hn0 := HR.out.1.num k
      have hst := fun j => @run_state (beginBk m) X k j
      have hln := run_len (beginBk m) X k
      have hcd : rC (beginBk m) X k = (doP (rB (beginBk m) X k) (X k)).1 := rfl
      have hrb : rB (beginBk m) X (k + 1) = if (doP (rB (beginBk m) X k) (X k)).1 = 1 then rB (beginBk m) X k else (doP (rB (beginBk m) X k) (X k)).2 := rfl
      obtain ⟨E, hE⟩ : ∃ E, E = X k := ⟨_, rfl⟩
      obtain ⟨B0, hB0⟩ : ∃ B0, B0 = rB (beginBk m) X k := ⟨_, rfl⟩
      obtain ⟨R1, hR1'⟩ : ∃ R1, R1 = rB (beginBk m) X (k + 1) := ⟨_, rfl⟩
      obtain ⟨cd, hcd'⟩ : ∃ cd, cd = rC (beginBk m) X k := ⟨_, rfl⟩
      obtain ⟨s0, hs0⟩ : ∃ s0, s0 = sAt ⟨ao, co, al, cl, ac, cc⟩ sl k := ⟨_, rfl⟩
      obtain ⟨s1, hs1⟩ : ∃ s1, s1 = sl k := ⟨_, rfl⟩
      obtain ⟨k0, hk0⟩ : ∃ k0, k0 = bAt K0 KD k := ⟨_, rfl⟩
      obtain ⟨k1, hk1⟩ : ∃ k1, k1 = bAt K0 KD (k + 1) := ⟨_, rfl⟩
      have es1 : sAt ⟨ao, co, al, cl, ac, cc⟩ sl (k + 1) = sl k := rfl
      rw [es1, ← hs1, ← hk1, ← hR1'] at ob1
      rw [← hs0, ← hk0, ← hB0] at ob0
      rw [← hs0, ← hB0] at hbx
      rw [← hR1'] at hR1
      rw [← hB0] at hR0 hS0 hn0 hcd hrb hln
      rw [← hE] at hcd hrb q
      rw [← hR1'] at hrb hln
      rw [← hcd'] at hcd
      rw [← hcd', ← hR1', ← hs1] at dc
      rw [← hE, ← hB0, ← hR1'] at hst
      obtain ⟨x0, x1, x2, x3, x4, x5, x6⟩ := q
      obtain ⟨y0, y1, y2, y3, y4, y5⟩ := dc
      obtain ⟨p0, p1, p2, p3⟩ := box_cells hbx
      have zP : P < wo.heap.size := (Array.getElem?_eq_some_iff.1 hbx).1
      have lb : b < wo.heap.size := World.block_lt_of_cell? _ _ x0
      have lG : GD < wo.heap.size := World.block_lt_of_cell? _ _ y0
      have HO : Hid (Fr (fun x => x = P) w3 wo ∧ wo.heap[P]? = some (.cells #[.int .i64 B0.n, .slice s0.ao B0.orders.length s0.co, .slice s0.al B0.locked.length s0.cl, .slice s0.ac B0.occ.length s0.cc] 29 (0, 0)) ∧ OwnBook wo 0 (bookV B0 s0) B0 k0 ∧ OwnBook wo 0 (bookV R1 s1) R1 k1) := ⟨hf, hbx, ob0, ob1⟩
      have HF : Hid (Right B0 ∧ Right R1 ∧ (B0.orders.length ≤ 1048576 ∧ ∀ i, i < B0.orders.length → (bX B0 i).secs.length ≤ 1048576 ∧ (bX B0 i).holder.size ≤ 1048576) ∧ B0.n = m ∧ cd = (doP B0 E).1 ∧ (R1 = if (doP B0 E).1 = 1 then B0 else (doP B0 E).2)) := ⟨hR0, hR1, hS0, hn0, hcd, hrb⟩
      have HST : Hid (∀ j, j < B0.orders.length → (bX R1 j).state = (bX B0 j).state ∨ Fits B0 E j (bX R1 j).state) := fun j hj => hst j hj
      have HNX : Hid (∀ W : World, W.heap[P]? = some (.cells #[.int .i64 R1.n, .slice s1.ao R1.orders.length s1.co, .slice s1.al R1.locked.length s1.cl, .slice s1.ac R1.occ.length s1.cc] 29 (0, 0)) → W.heap[P]? = some (.cells #[.int .i64 (rB (beginBk m) X (k + 1)).n, .slice (sAt ⟨ao, co, al, cl, ac, cc⟩ sl (k + 1)).ao (rB (beginBk m) X (k + 1)).orders.length (sAt ⟨ao, co, al, cl, ac, cc⟩ sl (k + 1)).co, .slice (sAt ⟨ao, co, al, cl, ac, cc⟩ sl (k + 1)).al (rB (beginBk m) X (k + 1)).locked.length (sAt ⟨ao, co, al, cl, ac, cc⟩ sl (k + 1)).cl, .slice (sAt ⟨ao, co, al, cl, ac, cc⟩ sl (k + 1)).ac (rB (beginBk m) X (k + 1)).occ.length (sAt ⟨ao, co, al, cl, ac, cc⟩ sl (k + 1)).cc] 29 (0, 0))) := fun W h => by rw [hR1', hs1] at h; exact h
      have hmN : 1 ≤ m ∧ m ≤ 9 := HR.out.1.m1
      have hk60 : k < 60 := by have := HR.out.1.n60; omega
      clear hst hR0 hR1 hS0 hn0 hcd hrb ob0 ob1 hf hbx g h2 x6 y5 es1 hE hB0 hR1' hcd' hs0 hs1 hk0 hk1
      have hln' : ¬ (R1.orders.length : Int) < (B0.orders.length : Int) := by omega
      have hR201 : R1.orders.length ≤ 200 := HF.out.2.1.1.2.2.2
      have hnb : -9223372036854775808 ≤ B0.n ∧ B0.n ≤ 9223372036854775807 := by have := HF.out.2.2.2.1; omega
      by_cases hz0 : B0.orders.length = 0
      · skip
        have hz0' : (B0.orders.length : Int) = 0 := by omega
        go_upto_region 14 with (fail)
        have HZ : Hid (Fr (fun x => x = P) w3 ((wo.alloc (.cells #[.int .i64 cd, .int .i64 R1.n, .slice s1.ao R1.orders.length s1.co, .slice s1.al R1.locked.length s1.cl, .slice s1.ac R1.occ.length s1.cc] 34)).alloc (.cells #[.int .i64 E.op, .int .i64 E.of_, .string E.holder, .int .i64 E.kind, .slice sa E.secs.length sc, .string E.text] 37)) ∧ ((wo.alloc (.cells #[.int .i64 cd, .int .i64 R1.n, .slice s1.ao R1.orders.length s1.co, .slice s1.al R1.locked.length s1.cl, .slice s1.ac R1.occ.length s1.cc] 34)).alloc (.cells #[.int .i64 E.op, .int .i64 E.of_, .string E.holder, .int .i64 E.kind, .slice sa E.secs.length sc, .string E.text] 37)).heap[P]? = some (.cells #[.int .i64 B0.n, .slice s0.ao B0.orders.length s0.co, .slice s0.al B0.locked.length s0.cl, .slice s0.ac B0.occ.length s0.cc] 29 (0, 0)) ∧ ((wo.alloc (.cells #[.int .i64 cd, .int .i64 R1.n, .slice s1.ao R1.orders.length s1.co, .slice s1.al R1.locked.length s1.cl, .slice s1.ac R1.occ.length s1.cc] 34)).alloc (.cells #[.int .i64 E.op, .int .i64 E.of_, .string E.holder, .int .i64 E.kind, .slice sa E.secs.length sc, .string E.text] 37)).heap[wo.heap.size]? = some (.cells #[.int .i64 cd, .int .i64 R1.n, .slice s1.ao R1.orders.length s1.co, .slice s1.al R1.locked.length s1.cl, .slice s1.ac R1.occ.length s1.cc] 34 (0, 0)) ∧ ((wo.alloc (.cells #[.int .i64 cd, .int .i64 R1.n, .slice s1.ao R1.orders.length s1.co, .slice s1.al R1.locked.length s1.cl, .slice s1.ac R1.occ.length s1.cc] 34)).alloc (.cells #[.int .i64 E.op, .int .i64 E.of_, .string E.holder, .int .i64 E.kind, .slice sa E.secs.length sc, .string E.text] 37)).heap[wo.heap.size + 1]? = some (.cells #[.int .i64 E.op, .int .i64 E.of_, .string E.holder, .int .i64 E.kind, .slice sa E.secs.length sc, .string E.text] 37 (0, 0)) ∧ OwnBook ((wo.alloc (.cells #[.int .i64 cd, .int .i64 R1.n, .slice s1.ao R1.orders.length s1.co, .slice s1.al R1.locked.length s1.cl, .slice s1.ac R1.occ.length s1.cc] 34)).alloc (.cells #[.int .i64 E.op, .int .i64 E.of_, .string E.holder, .int .i64 E.kind, .slice sa E.secs.length sc, .string E.text] 37)) 0 (bookV B0 s0) B0 k0 ∧ OwnBook ((wo.alloc (.cells #[.int .i64 cd, .int .i64 R1.n, .slice s1.ao R1.orders.length s1.co, .slice s1.al R1.locked.length s1.cl, .slice s1.ac R1.occ.length s1.cc] 34)).alloc (.cells #[.int .i64 E.op, .int .i64 E.of_, .string E.holder, .int .i64 E.kind, .slice sa E.secs.length sc, .string E.text] 37)) 0 (bookV R1 s1) R1 k1) := ⟨HO.out.1.trans (Fr.of_below (below2 _ _ _)), ((below2 _ _ _).block _ zP).trans HO.out.2.1, (boxes2 _ _ _ _ _).1, (boxes2 _ _ _ _ _).2, HO.out.2.2.1.below (below2 _ _ _), HO.out.2.2.2.below (below2 _ _ _)⟩
        obtain ⟨Z, hZ⟩ : ∃ Z, Z = ((wo.alloc (.cells #[.int .i64 cd, .int .i64 R1.n, .slice s1.ao R1.orders.length s1.co, .slice s1.al R1.locked.length s1.cl, .slice s1.ac R1.occ.length s1.cc] 34)).alloc (.cells #[.int .i64 E.op, .int .i64 E.of_, .string E.holder, .int .i64 E.kind, .slice sa E.secs.length sc, .string E.text] 37)) := ⟨_, rfl⟩
        rw [← hZ] at HZ ⊢
        clear hZ p0 p1 p2 p3 x0 x1 x2 x3 x4 x5 y0 y1 y2 y3 y4 lb lG zP
        obtain ⟨p0, p1, p2, p3⟩ := box_cells HZ.out.2.1
        obtain ⟨d0, d1, d2, d3, d4⟩ := dcells HZ.out.2.2.1
        obtain ⟨e0, e1, e2, e3, e4, e5⟩ := ev_cells HZ.out.2.2.2.1
        have zP : P < Z.heap.size := (Array.getElem?_eq_some_iff.1 HZ.out.2.1).1
        have zd : wo.heap.size < Z.heap.size := (Array.getElem?_eq_some_iff.1 HZ.out.2.2.1).1
        have ze : wo.heap.size + 1 < Z.heap.size := (Array.getElem?_eq_some_iff.1 HZ.out.2.2.2.1).1
        have fP0 : Z.frozen? ⟨P, 0, none⟩ = false := frozen_of_box HZ.out.2.1
        have fP1 : Z.frozen? ⟨P, 1, none⟩ = false := frozen_of_box HZ.out.2.1
        have fP2 : Z.frozen? ⟨P, 2, none⟩ = false := frozen_of_box HZ.out.2.1
        have fP3 : Z.frozen? ⟨P, 3, none⟩ = false := frozen_of_box HZ.out.2.1
        go_wp2
        go_loopw [54] (fun i wr => i = .int .i64 0 ∧ wr = Z) (fun _ _ => 0)
        case atStart => exact ⟨rfl, rfl⟩
        case round =>
          obtain ⟨rfl, hwr⟩ := hrel
          obtain rfl := hwr.symm
          go_wp2
          go_roundw
          case rel => exact ⟨k + 1, by omega, by go_num, (HZ.out.1).trans (putBook_fr Z P R1 s1), HNX.out _ (putBook_box HZ.out.2.1)⟩
          case measure => simp [intOf]; omega
      · skip
        have hao0 : s0.ao = some ⟨k0.G, 0, none⟩ := book_head (show OwnBook wo 0 (.agg #[.int .i64 B0.n, .slice s0.ao B0.orders.length s0.co, .slice s0.al B0.locked.length s0.cl, .slice s0.ac B0.occ.length s0.cc]) B0 k0 from HO.out.2.2.1) (by omega)
        have hao1 : s1.ao = some ⟨k1.G, 0, none⟩ := book_head (show OwnBook wo 0 (.agg #[.int .i64 R1.n, .slice s1.ao R1.orders.length s1.co, .slice s1.al R1.locked.length s1.cl, .slice s1.ac R1.occ.length s1.cc]) R1 k1 from HO.out.2.2.2) (by omega)
        have HA0 : Hid (s0.ao = some ⟨k0.G, 0, none⟩) := hao0
        have HA1 : Hid (s1.ao = some ⟨k1.G, 0, none⟩) := hao1
        clear hao0 hao1
        rw [HA0.out] at p1
        go_upto_region 14 with (fail)
        have HZ : Hid (Fr (fun x => x = P) w3 ((wo.alloc (.cells #[.int .i64 cd, .int .i64 R1.n, .slice s1.ao R1.orders.length s1.co, .slice s1.al R1.locked.length s1.cl, .slice s1.ac R1.occ.length s1.cc] 34)).alloc (.cells #[.int .i64 E.op, .int .i64 E.of_, .string E.holder, .int .i64 E.kind, .slice sa E.secs.length sc, .string E.text] 37)) ∧ ((wo.alloc (.cells #[.int .i64 cd, .int .i64 R1.n, .slice s1.ao R1.orders.length s1.co, .slice s1.al R1.locked.length s1.cl, .slice s1.ac R1.occ.length s1.cc] 34)).alloc (.cells #[.int .i64 E.op, .int .i64 E.of_, .string E.holder, .int .i64 E.kind, .slice sa E.secs.length sc, .string E.text] 37)).heap[P]? = some (.cells #[.int .i64 B0.n, .slice s0.ao B0.orders.length s0.co, .slice s0.al B0.locked.length s0.cl, .slice s0.ac B0.occ.length s0.cc] 29 (0, 0)) ∧ ((wo.alloc (.cells #[.int .i64 cd, .int .i64 R1.n, .slice s1.ao R1.orders.length s1.co, .slice s1.al R1.locked.length s1.cl, .slice s1.ac R1.occ.length s1.cc] 34)).alloc (.cells #[.int .i64 E.op, .int .i64 E.of_, .string E.holder, .int .i64 E.kind, .slice sa E.secs.length sc, .string E.text] 37)).heap[wo.heap.size]? = some (.cells #[.int .i64 cd, .int .i64 R1.n, .slice s1.ao R1.orders.length s1.co, .slice s1.al R1.locked.length s1.cl, .slice s1.ac R1.occ.length s1.cc] 34 (0, 0)) ∧ ((wo.alloc (.cells #[.int .i64 cd, .int .i64 R1.n, .slice s1.ao R1.orders.length s1.co, .slice s1.al R1.locked.length s1.cl, .slice s1.ac R1.occ.length s1.cc] 34)).alloc (.cells #[.int .i64 E.op, .int .i64 E.of_, .string E.holder, .int .i64 E.kind, .slice sa E.secs.length sc, .string E.text] 37)).heap[wo.heap.size + 1]? = some (.cells #[.int .i64 E.op, .int .i64 E.of_, .string E.holder, .int .i64 E.kind, .slice sa E.secs.length sc, .string E.text] 37 (0, 0)) ∧ OwnBook ((wo.alloc (.cells #[.int .i64 cd, .int .i64 R1.n, .slice s1.ao R1.orders.length s1.co, .slice s1.al R1.locked.length s1.cl, .slice s1.ac R1.occ.length s1.cc] 34)).alloc (.cells #[.int .i64 E.op, .int .i64 E.of_, .string E.holder, .int .i64 E.kind, .slice sa E.secs.length sc, .string E.text] 37)) 0 (bookV B0 s0) B0 k0 ∧ OwnBook ((wo.alloc (.cells #[.int .i64 cd, .int .i64 R1.n, .slice s1.ao R1.orders.length s1.co, .slice s1.al R1.locked.length s1.cl, .slice s1.ac R1.occ.length s1.cc] 34)).alloc (.cells #[.int .i64 E.op, .int .i64 E.of_, .string E.holder, .int .i64 E.kind, .slice sa E.secs.length sc, .string E.text] 37)) 0 (bookV R1 s1) R1 k1) := ⟨HO.out.1.trans (Fr.of_below (below2 _ _ _)), ((below2 _ _ _).block _ zP).trans HO.out.2.1, (boxes2 _ _ _ _ _).1, (boxes2 _ _ _ _ _).2, HO.out.2.2.1.below (below2 _ _ _), HO.out.2.2.2.below (below2 _ _ _)⟩
        obtain ⟨Z, hZ⟩ : ∃ Z, Z = ((wo.alloc (.cells #[.int .i64 cd, .int .i64 R1.n, .slice s1.ao R1.orders.length s1.co, .slice s1.al R1.locked.length s1.cl, .slice s1.ac R1.occ.length s1.cc] 34)).alloc (.cells #[.int .i64 E.op, .int .i64 E.of_, .string E.holder, .int .i64 E.kind, .slice sa E.secs.length sc, .string E.text] 37)) := ⟨_, rfl⟩
        rw [← hZ] at HZ ⊢
        clear hZ p0 p1 p2 p3 x0 x1 x2 x3 x4 x5 y0 y1 y2 y3 y4 lb lG zP
        obtain ⟨p0, p1, p2, p3⟩ := box_cells HZ.out.2.1
        obtain ⟨d0, d1, d2, d3, d4⟩ := dcells HZ.out.2.2.1
        obtain ⟨e0, e1, e2, e3, e4, e5⟩ := ev_cells HZ.out.2.2.2.1
        have zP : P < Z.heap.size := (Array.getElem?_eq_some_iff.1 HZ.out.2.1).1
        have zd : wo.heap.size < Z.heap.size := (Array.getElem?_eq_some_iff.1 HZ.out.2.2.1).1
        have ze : wo.heap.size + 1 < Z.heap.size := (Array.getElem?_eq_some_iff.1 HZ.out.2.2.2.1).1
        have fP0 : Z.frozen? ⟨P, 0, none⟩ = false := frozen_of_box HZ.out.2.1
        have fP1 : Z.frozen? ⟨P, 1, none⟩ = false := frozen_of_box HZ.out.2.1
        have fP2 : Z.frozen? ⟨P, 2, none⟩ = false := frozen_of_box HZ.out.2.1
        have fP3 : Z.frozen? ⟨P, 3, none⟩ = false := frozen_of_box HZ.out.2.1
        rw [HA0.out] at p1
        go_wp2
        have HZ1 : Hid (Fr (fun x => x = P) w3 Z ∧ Z.heap[P]? = some (.cells #[.int .i64 B0.n, .slice s0.ao B0.orders.length s0.co, .slice s0.al B0.locked.length s0.cl, .slice s0.ac B0.occ.length s0.cc] 29 (0, 0)) ∧ Z.heap[wo.heap.size]? = some (.cells #[.int .i64 cd, .int .i64 R1.n, .slice s1.ao R1.orders.length s1.co, .slice s1.al R1.locked.length s1.cl, .slice s1.ac R1.occ.length s1.cc] 34 (0, 0)) ∧ Z.heap[wo.heap.size + 1]? = some (.cells #[.int .i64 E.op, .int .i64 E.of_, .string E.holder, .int .i64 E.kind, .slice sa E.secs.length sc, .string E.text] 37 (0, 0)) ∧ OwnBook Z 0 (bookV B0 s0) B0 k0 ∧ OwnBook Z 0 (bookV R1 s1) R1 k1) := HZ
        clear HZ p0 p1 p2 p3 d0 d1 d2 d3 d4 e0 e1 e2 e3 e4 e5 zP zd ze fP0 fP1 fP2 fP3
        go_loopw [54] (fun i wr => ∃ q : Nat, q ≤ B0.orders.length ∧ i = .int .i64 q ∧ (Fr (fun x => x = P) w3 wr ∧ wr.heap[P]? = some (.cells #[.int .i64 B0.n, .slice s0.ao B0.orders.length s0.co, .slice s0.al B0.locked.length s0.cl, .slice s0.ac B0.occ.length s0.cc] 29 (0, 0)) ∧ wr.heap[wo.heap.size]? = some (.cells #[.int .i64 cd, .int .i64 R1.n, .slice s1.ao R1.orders.length s1.co, .slice s1.al R1.locked.length s1.cl, .slice s1.ac R1.occ.length s1.cc] 34 (0, 0)) ∧ wr.heap[wo.heap.size + 1]? = some (.cells #[.int .i64 E.op, .int .i64 E.of_, .string E.holder, .int .i64 E.kind, .slice sa E.secs.length sc, .string E.text] 37 (0, 0)) ∧ OwnBook wr 0 (bookV B0 s0) B0 k0 ∧ OwnBook wr 0 (bookV R1 s1) R1 k1)) (fun i _ => B0.orders.length - (intOf i).toNat)
        case atStart => exact ⟨0, Nat.zero_le _, rfl, HZ1.out⟩
        case round =>
          obtain ⟨q, hq, rfl, hz⟩ := hrel
          clear HZ1
          have HZ : Hid (Fr (fun x => x = P) w3 wr ∧ wr.heap[P]? = some (.cells #[.int .i64 B0.n, .slice s0.ao B0.orders.length s0.co, .slice s0.al B0.locked.length s0.cl, .slice s0.ac B0.occ.length s0.cc] 29 (0, 0)) ∧ wr.heap[wo.heap.size]? = some (.cells #[.int .i64 cd, .int .i64 R1.n, .slice s1.ao R1.orders.length s1.co, .slice s1.al R1.locked.length s1.cl, .slice s1.ac R1.occ.length s1.cc] 34 (0, 0)) ∧ wr.heap[wo.heap.size + 1]? = some (.cells #[.int .i64 E.op, .int .i64 E.of_, .string E.holder, .int .i64 E.kind, .slice sa E.secs.length sc, .string E.text] 37 (0, 0)) ∧ OwnBook wr 0 (bookV B0 s0) B0 k0 ∧ OwnBook wr 0 (bookV R1 s1) R1 k1) := hz
          clear hz
          by_cases hqlt : q < B0.orders.length
          · skip
            obtain ⟨⟨c0, c1, c2, c3, c4⟩, -, -⟩ := ord_facts HZ.out.2.2.2.2.1 hqlt
            have lk0 : k0.G < wr.heap.size := World.block_lt_of_cell? _ _ c0
            clear c4
            go_upto_region 17 with (fail)
            have bo := below1 wr (.cells #[.string (bX B0 q).holder, .int .i64 (bX B0 q).kind, .slice (k0.sa q) (bX B0 q).secs.length (k0.sc q), .int .i64 (bX B0 q).state] 39)
            have HZ2 : Hid (Fr (fun x => x = P) w3 (wr.alloc (.cells #[.string (bX B0 q).holder, .int .i64 (bX B0 q).kind, .slice (k0.sa q) (bX B0 q).secs.length (k0.sc q), .int .i64 (bX B0 q).state] 39)) ∧ (wr.alloc (.cells #[.string (bX B0 q).holder, .int .i64 (bX B0 q).kind, .slice (k0.sa q) (bX B0 q).secs.length (k0.sc q), .int .i64 (bX B0 q).state] 39)).heap[P]? = some (.cells #[.int .i64 B0.n, .slice s0.ao B0.orders.length s0.co, .slice s0.al B0.locked.length s0.cl, .slice s0.ac B0.occ.length s0.cc] 29 (0, 0)) ∧ (wr.alloc (.cells #[.string (bX B0 q).holder, .int .i64 (bX B0 q).kind, .slice (k0.sa q) (bX B0 q).secs.length (k0.sc q), .int .i64 (bX B0 q).state] 39)).heap[wo.heap.size]? = some (.cells #[.int .i64 cd, .int .i64 R1.n, .slice s1.ao R1.orders.length s1.co, .slice s1.al R1.locked.length s1.cl, .slice s1.ac R1.occ.length s1.cc] 34 (0, 0)) ∧ (wr.alloc (.cells #[.string (bX B0 q).holder, .int .i64 (bX B0 q).kind, .slice (k0.sa q) (bX B0 q).secs.length (k0.sc q), .int .i64 (bX B0 q).state] 39)).heap[wo.heap.size + 1]? = some (.cells #[.int .i64 E.op, .int .i64 E.of_, .string E.holder, .int .i64 E.kind, .slice sa E.secs.length sc, .string E.text] 37 (0, 0)) ∧ OwnBook (wr.alloc (.cells #[.string (bX B0 q).holder, .int .i64 (bX B0 q).kind, .slice (k0.sa q) (bX B0 q).secs.length (k0.sc q), .int .i64 (bX B0 q).state] 39)) 0 (bookV B0 s0) B0 k0 ∧ OwnBook (wr.alloc (.cells #[.string (bX B0 q).holder, .int .i64 (bX B0 q).kind, .slice (k0.sa q) (bX B0 q).secs.length (k0.sc q), .int .i64 (bX B0 q).state] 39)) 0 (bookV R1 s1) R1 k1) := ⟨HZ.out.1.trans (Fr.of_below bo), (bo.block _ (Array.getElem?_eq_some_iff.1 HZ.out.2.1).1).trans HZ.out.2.1, (bo.block _ (Array.getElem?_eq_some_iff.1 HZ.out.2.2.1).1).trans HZ.out.2.2.1, (bo.block _ (Array.getElem?_eq_some_iff.1 HZ.out.2.2.2.1).1).trans HZ.out.2.2.2.1, HZ.out.2.2.2.2.1.below bo, HZ.out.2.2.2.2.2.below bo⟩
            have xo : (wr.alloc (.cells #[.string (bX B0 q).holder, .int .i64 (bX B0 q).kind, .slice (k0.sa q) (bX B0 q).secs.length (k0.sc q), .int .i64 (bX B0 q).state] 39)).heap[wr.heap.size]? = some (.cells #[.string (bX B0 q).holder, .int .i64 (bX B0 q).kind, .slice (k0.sa q) (bX B0 q).secs.length (k0.sc q), .int .i64 (bX B0 q).state] 39 (0, 0)) := Deep.blk_alloc_new _ _
            obtain ⟨Z2, hZ2⟩ : ∃ Z2, Z2 = wr.alloc (.cells #[.string (bX B0 q).holder, .int .i64 (bX B0 q).kind, .slice (k0.sa q) (bX B0 q).secs.length (k0.sc q), .int .i64 (bX B0 q).state] 39) := ⟨_, rfl⟩
            rw [← hZ2] at HZ2 xo ⊢
            clear hZ2 bo c0 c1 c2 c3 HZ lk0
            obtain ⟨p0, p1, p2, p3⟩ := box_cells HZ2.out.2.1
            obtain ⟨d0, d1, d2, d3, d4⟩ := dcells HZ2.out.2.2.1
            obtain ⟨e0, e1, e2, e3, e4, e5⟩ := ev_cells HZ2.out.2.2.2.1
            have zP : P < Z2.heap.size := (Array.getElem?_eq_some_iff.1 HZ2.out.2.1).1
            have zd : wo.heap.size < Z2.heap.size := (Array.getElem?_eq_some_iff.1 HZ2.out.2.2.1).1
            have ze : wo.heap.size + 1 < Z2.heap.size := (Array.getElem?_eq_some_iff.1 HZ2.out.2.2.2.1).1
            have fP0 : Z2.frozen? ⟨P, 0, none⟩ = false := frozen_of_box HZ2.out.2.1
            have fP1 : Z2.frozen? ⟨P, 1, none⟩ = false := frozen_of_box HZ2.out.2.1
            have fP2 : Z2.frozen? ⟨P, 2, none⟩ = false := frozen_of_box HZ2.out.2.1
            have fP3 : Z2.frozen? ⟨P, 3, none⟩ = false := frozen_of_box HZ2.out.2.1
            rw [HA0.out] at p1
            rw [HA1.out] at d2
            obtain ⟨o0, o1, o2, o3⟩ := box_cells xo
            have zo : wr.heap.size < Z2.heap.size := (Array.getElem?_eq_some_iff.1 xo).1
            have HOB : Hid (Z2.heap[wr.heap.size]? = some (.cells #[.string (bX B0 q).holder, .int .i64 (bX B0 q).kind, .slice (k0.sa q) (bX B0 q).secs.length (k0.sc q), .int .i64 (bX B0 q).state] 39 (0, 0))) := xo
            clear xo
            have HBK : Hid (BookAt Z2 (.agg #[.int .i64 B0.n, .slice (some ⟨k0.G, 0, none⟩) B0.orders.length s0.co, .slice s0.al B0.locked.length s0.cl, .slice s0.ac B0.occ.length s0.cc]) B0) := by
              have := HZ2.out.2.2.2.2.1.bookAt
              unfold bookV at this
              rw [HA0.out] at this
              exact this
            obtain ⟨⟨-, -, -, r3, -⟩, -, -⟩ := ord_facts HZ2.out.2.2.2.2.2 (show q < R1.orders.length by omega)
            have lk1 : k1.G < Z2.heap.size := World.block_lt_of_cell? _ _ r3
            have q1 : (q : Int) < (R1.orders.length : Int) := by omega
            have hst := HST.out q hqlt
            by_cases hsame : (bX R1 q).state = (bX B0 q).state
            · have tsm : ((bX R1 q).state == (bX B0 q).state) = true := by rw [hsame]; simp
              clear hsame hst
              go_wp2
              go_roundw
              case rel => exact ⟨q + 1, by omega, by go_num, HZ2.out⟩
              case measure => simp [intOf]; omega
            have tsm : ((bX R1 q).state == (bX B0 q).state) = false := by simpa using hsame
            rcases hst with e | ⟨hnow, f2, f3, f4⟩ | ⟨hnow, f2, f3, f4, f5, f6⟩ | ⟨hnow, f2, f3, f4, f5⟩ | ⟨hnow, f2, f3, f4⟩
            · exact absurd e hsame
            · clear hsame
              have tn2 : ((bX R1 q).state == 2) = true := by rw [hnow]; rfl
              have tn3 : ((bX R1 q).state == 3) = false := by rw [hnow]; rfl
              have tn4 : ((bX R1 q).state == 4) = false := by rw [hnow]; rfl
              have tn5 : ((bX R1 q).state == 5) = false := by rw [hnow]; rfl
              have ts1 : ((bX B0 q).state == 1) = true := by rw [f2]; rfl
              have to2 : (E.op == 2) = true := by rw [f3]; rfl
              have tk : (E.of_ == (q : Int)) = true := by rw [f4]; simp
              clear hnow f2 f3 f4
              go_wp2
              go_roundw
              case rel => exact ⟨q + 1, by omega, by go_num, HZ2.out⟩
              case measure => simp [intOf]; omega
            · clear hsame
              have tn2 : ((bX R1 q).state == 2) = false := by rw [hnow]; rfl
              have tn3 : ((bX R1 q).state == 3) = true := by rw [hnow]; rfl
              have tn4 : ((bX R1 q).state == 4) = false := by rw [hnow]; rfl
              have tn5 : ((bX R1 q).state == 5) = false := by rw [hnow]; rfl
              have ts1 : ((bX B0 q).state == 2) = true := by rw [f2]; rfl
              have to2 : (E.op == 3) = true := by rw [f3]; rfl
              have tk : (E.of_ == (q : Int)) = true := by rw [f4]; simp
              have th := strEq_t f5.symm
              have FT : Hid (OrdT B0 q (bl E.text)) := f6
              clear hnow f2 f3 f4 f5 f6
              go_upto_region 24 with (fail)
              refine wp_region_held_drew (S := (fun w' => w'.cell? ⟨wr.heap.size, 0, none⟩ = some (.string (bX B0 q).holder) ∧ w'.cell? ⟨wr.heap.size, 3, none⟩ = some (.int .i64 (bX B0 q).state) ∧ w'.cell? ⟨wo.heap.size + 1, 0, none⟩ = some (.int .i64 E.op) ∧ w'.cell? ⟨wo.heap.size + 1, 1, none⟩ = some (.int .i64 E.of_) ∧ w'.cell? ⟨wo.heap.size + 1, 2, none⟩ = some (.string E.holder) ∧ w'.cell? ⟨wo.heap.size + 1, 5, none⟩ = some (.string E.text) ∧ w'.cell? ⟨P, 0, none⟩ = some (.int .i64 B0.n) ∧ w'.cell? ⟨P, 1, none⟩ = some (.slice (some ⟨k0.G, 0, none⟩) B0.orders.length s0.co) ∧ w'.cell? ⟨P, 2, none⟩ = some (.slice s0.al B0.locked.length s0.cl) ∧ w'.cell? ⟨P, 3, none⟩ = some (.slice s0.ac B0.occ.length s0.cc))) (by kernel_rfl) (by simp [go_sem, o0, o3, e0, e1, e2, e5, p0, p1, p2, p3]) (fun hS0 => ?_)
              refine wpAnyH_take (i := 0) (v := ?_) rfl (by kernel_rfl) (by kernel_rfl) (by kernel_rfl) (fun _ _ _ h => h) (Or.inl ⟨by kernel_rfl, ?_⟩) (by assumption) ?_
              rotate_left 1
              · (intro w hSw; (try dsimp only at hSw); go_simp; try (with_reducible rfl))
              refine wpAnyH_take (i := 1) (v := ?_) rfl (by kernel_rfl) (by kernel_rfl) (by kernel_rfl) (fun _ _ _ h => h) (Or.inl ⟨by kernel_rfl, ?_⟩) (by assumption) ?_
              rotate_left 1
              · (intro w hSw; (try dsimp only at hSw); go_simp; try (with_reducible rfl))
              refine wpAnyH_take (i := 2) (v := ?_) rfl (by kernel_rfl) (by kernel_rfl) (by kernel_rfl) (fun _ _ _ h => h) (Or.inl ⟨by kernel_rfl, ?_⟩) (by assumption) ?_
              rotate_left 1
              · (intro w hSw; (try dsimp only at hSw); go_simp; try (with_reducible rfl))
              refine wpAnyH_take (i := 3) (v := ?_) rfl (by kernel_rfl) (by kernel_rfl) (by kernel_rfl) (fun _ _ _ h => h) (Or.inl ⟨by kernel_rfl, ?_⟩) (by assumption) ?_
              rotate_left 1
              · (intro w hSw; (try dsimp only at hSw); go_simp; try (with_reducible rfl))
              refine wpAnyH_take (i := 4) (v := ?_) rfl (by kernel_rfl) (by kernel_rfl) (by kernel_rfl) (fun _ _ _ h => h) (Or.inl ⟨by kernel_rfl, ?_⟩) (by assumption) ?_
              rotate_left 1
              · (intro w hSw; (try dsimp only at hSw); go_simp; try (with_reducible rfl))
              refine wpAnyH_take (i := 5) (v := ?_) rfl (by kernel_rfl) (by kernel_rfl) (by kernel_rfl) (fun _ _ _ h => h) (Or.inl ⟨by kernel_rfl, ?_⟩) (by assumption) ?_
              rotate_left 1
              · (intro w hSw; (try dsimp only at hSw); go_simp; try (with_reducible rfl))
              refine wpAnyH_take (i := 6) (v := ?_) rfl (by kernel_rfl) (by kernel_rfl) (by kernel_rfl) (fun _ _ _ h => h) (Or.inl ⟨by kernel_rfl, ?_⟩) (by assumption) ?_
              rotate_left 1
              · (intro w hSw; (try dsimp only at hSw); go_simp; try (with_reducible rfl))
              refine wpAnyH_take (i := 7) (v := ?_) rfl (by kernel_rfl) (by kernel_rfl) (by kernel_rfl) (fun _ _ _ h => h) (Or.inl ⟨by kernel_rfl, ?_⟩) (by assumption) ?_
              rotate_left 1
              · (intro w hSw; (try dsimp only at hSw); go_simp; try (with_reducible rfl))
              refine wpAnyH_take (i := 8) (v := ?_) rfl (by kernel_rfl) (by kernel_rfl) (by kernel_rfl) (fun _ _ _ h => h) (Or.inl ⟨by kernel_rfl, ?_⟩) (by assumption) ?_
              rotate_left 1
              · (intro w hSw; (try dsimp only at hSw); go_simp; try (with_reducible rfl))
              refine wpAnyH_take (i := 9) (v := ?_) rfl (by kernel_rfl) (by kernel_rfl) (by kernel_rfl) (fun _ _ _ h => h) (Or.inl ⟨by kernel_rfl, ?_⟩) (by assumption) ?_
              rotate_left 1
              · (intro w hSw; (try dsimp only at hSw); go_simp; try (with_reducible rfl))
              refine wpAnyH_take (i := 10) (v := ?_) rfl (by kernel_rfl) (by kernel_rfl) (by kernel_rfl) (fun _ _ _ h => h) (Or.inl ⟨by kernel_rfl, ?_⟩) (by assumption) ?_
              rotate_left 1
              · (intro w hSw; (try dsimp only at hSw); go_simp; try (with_reducible rfl))
              refine wpAnyH_take (i := 11) (v := ?_) rfl (by kernel_rfl) (by kernel_rfl) (by kernel_rfl) (fun _ _ _ h => h) (Or.inl ⟨by kernel_rfl, ?_⟩) (by assumption) ?_
              rotate_left 1
              · (intro w hSw; (try dsimp only at hSw); go_simp; try (with_reducible rfl))
              refine wpAnyH_take (i := 12) (v := ?_) rfl (by kernel_rfl) (by kernel_rfl) (by kernel_rfl) (fun _ _ _ h => h) (Or.inl ⟨by kernel_rfl, ?_⟩) (by assumption) ?_
              rotate_left 1
              · (intro w hSw; (try dsimp only at hSw); go_simp; try (with_reducible rfl))
              refine wpAnyH_take (i := 13) (v := ?_) rfl (by kernel_rfl) (by kernel_rfl) (by kernel_rfl) (fun _ _ _ h => h) (Or.inl ⟨by kernel_rfl, ?_⟩) (by assumption) ?_
              rotate_left 1
              · (intro w hSw; (try dsimp only at hSw); go_simp; try (with_reducible rfl))
              refine wpAnyH_take (i := 14) (v := ?_) rfl (by kernel_rfl) (by kernel_rfl) (by kernel_rfl) (fun _ _ _ h => h) (Or.inl ⟨by kernel_rfl, ?_⟩) (by assumption) ?_
              rotate_left 1
              · (intro w hSw; (try dsimp only at hSw); go_simp; try (with_reducible rfl))
              refine wpAnyH_take (i := 15) (v := ?_) rfl (by kernel_rfl) (by kernel_rfl) (by kernel_rfl) (fun _ _ _ h => h) (Or.inl ⟨by kernel_rfl, ?_⟩) (by assumption) ?_
              rotate_left 1
              · (intro w hSw; (try dsimp only at hSw); go_simp; try (with_reducible rfl))
              refine wpAnyH_take (i := 16) (v := ?_) rfl (by kernel_rfl) (by kernel_rfl) (by kernel_rfl) (fun _ _ _ h => h) (Or.inl ⟨by kernel_rfl, ?_⟩) (by assumption) ?_
              rotate_left 1
              · (intro w hSw; (try dsimp only at hSw); go_simp; try (with_reducible rfl))
              refine wpAnyH_take (i := 17) (v := ?_) rfl (by kernel_rfl) (by kernel_rfl) (by kernel_rfl) (fun _ _ _ h => h) (Or.inl ⟨by kernel_rfl, ?_⟩) (by assumption) ?_
              rotate_left 1
              · (intro w hSw; (try dsimp only at hSw); go_simp; try (with_reducible rfl))
              refine wpAnyH_take (i := 18) (v := ?_) rfl (by kernel_rfl) (by kernel_rfl) (by kernel_rfl) (fun _ _ _ h => h) (Or.inl ⟨by kernel_rfl, ?_⟩) (by assumption) ?_
              rotate_left 1
              · (intro w hSw; (try dsimp only at hSw); go_simp; try (with_reducible rfl))
              refine wpAnyH_take (i := 19) (v := ?_) rfl (by kernel_rfl) (by kernel_rfl) (by kernel_rfl) (fun _ _ _ h => h) (Or.inl ⟨by kernel_rfl, ?_⟩) (by assumption) ?_
              rotate_left 1
              · (intro w hSw; (try dsimp only at hSw); go_simp; try (with_reducible rfl))
              refine wpAnyH_take (i := 20) (v := ?_) rfl (by kernel_rfl) (by kernel_rfl) (by kernel_rfl) (fun _ _ _ h => h) (Or.inl ⟨by kernel_rfl, ?_⟩) (by assumption) ?_
              rotate_left 1
              · (intro w hSw; (try dsimp only at hSw); go_simp; try (with_reducible rfl))
              refine wpAnyH_take (i := 21) (v := ?_) rfl (by kernel_rfl) (by kernel_rfl) (by kernel_rfl) (fun _ _ _ h => h) (Or.inl ⟨by kernel_rfl, ?_⟩) (by assumption) ?_
              rotate_left 1
              · (intro w hSw; (try dsimp only at hSw); go_simp; try (with_reducible rfl))
              refine wpAnyH_take (i := 22) (v := ?_) rfl (by kernel_rfl) (by kernel_rfl) (by kernel_rfl) (fun _ _ _ h => h) (Or.inl ⟨by kernel_rfl, ?_⟩) (by assumption) ?_
              rotate_left 1
              · (intro w hSw; (try dsimp only at hSw); go_simp; try (with_reducible rfl))
              refine wpAnyH_take (i := 23) (v := ?_) rfl (by kernel_rfl) (by kernel_rfl) (by kernel_rfl) (fun _ _ _ h => h) (Or.inl ⟨by kernel_rfl, ?_⟩) (by assumption) ?_
              rotate_left 1
              · (intro w hSw; (try dsimp only at hSw); go_simp; try (with_reducible rfl))
              refine wpAnyH_take (i := 24) (v := ?_) rfl (by kernel_rfl) (by kernel_rfl) (by kernel_rfl) (fun _ _ _ h => h) (Or.inl ⟨by kernel_rfl, ?_⟩) (by assumption) ?_
              rotate_left 1
              · (intro w hSw; (try dsimp only at hSw); go_simp; try (with_reducible rfl))
              refine wpAnyH_take (i := 25) (v := ?_) rfl (by kernel_rfl) (by kernel_rfl) (by kernel_rfl) (fun _ _ _ h => h) (Or.inl ⟨by kernel_rfl, ?_⟩) (by assumption) ?_
              rotate_left 1
              · (intro w hSw; (try dsimp only at hSw); go_simp; try (with_reducible rfl))
              refine wpAnyH_ready (rs := [26]) (by kernel_rfl) (by simp) ?_
              refine AllReadyH.cons rfl (fun Kx hK => ?_) (AllReadyH.nil)
              go_simp
              refine (specOrderText_any _ B0 (q : Int) _ HF.out.2.2.1.1 HF.out.2.2.1.2 hnb (HBK.out.below (Below.refl _ _).drew)).mono ?_
              rintro e w9 ⟨⟨y9, rfl, hy9⟩, hb9⟩
              have ty := strEq_t (text_same HF.out.1 hqlt hy9 FT.out)
              have HY : Hid (Fr (fun x => x = P) w3 w9 ∧ w9.heap[P]? = some (.cells #[.int .i64 B0.n, .slice s0.ao B0.orders.length s0.co, .slice s0.al B0.locked.length s0.cl, .slice s0.ac B0.occ.length s0.cc] 29 (0, 0)) ∧ w9.heap[wo.heap.size]? = some (.cells #[.int .i64 cd, .int .i64 R1.n, .slice s1.ao R1.orders.length s1.co, .slice s1.al R1.locked.length s1.cl, .slice s1.ac R1.occ.length s1.cc] 34 (0, 0)) ∧ w9.heap[wo.heap.size + 1]? = some (.cells #[.int .i64 E.op, .int .i64 E.of_, .string E.holder, .int .i64 E.kind, .slice sa E.secs.length sc, .string E.text] 37 (0, 0)) ∧ OwnBook w9 0 (bookV B0 s0) B0 k0 ∧ OwnBook w9 0 (bookV R1 s1) R1 k1) := ⟨HZ2.out.1.drew'.trans (Fr.of_below hb9), (hb9.block _ zP).trans HZ2.out.2.1, (hb9.block _ zd).trans HZ2.out.2.2.1, (hb9.block _ ze).trans HZ2.out.2.2.2.1, (HZ2.out.2.2.2.2.1.below (Below.refl _ _).drew).below hb9, (HZ2.out.2.2.2.2.2.below (Below.refl _ _).drew).below hb9⟩
              have xo9 := (hb9.block _ zo).trans HOB.out
              clear hy9 hb9 HZ2 HOB p0 p1 p2 p3 d0 d1 d2 d3 d4 e0 e1 e2 e3 e4 e5 zP zd ze fP0 fP1 fP2 fP3 o0 o1 o2 o3 zo
              obtain ⟨p0, p1, p2, p3⟩ := box_cells HY.out.2.1
              obtain ⟨d0, d1, d2, d3, d4⟩ := dcells HY.out.2.2.1
              obtain ⟨e0, e1, e2, e3, e4, e5⟩ := ev_cells HY.out.2.2.2.1
              have zP : P < w9.heap.size := (Array.getElem?_eq_some_iff.1 HY.out.2.1).1
              have zd : wo.heap.size < w9.heap.size := (Array.getElem?_eq_some_iff.1 HY.out.2.2.1).1
              have ze : wo.heap.size + 1 < w9.heap.size := (Array.getElem?_eq_some_iff.1 HY.out.2.2.2.1).1
              have fP0 : w9.frozen? ⟨P, 0, none⟩ = false := frozen_of_box HY.out.2.1
              have fP1 : w9.frozen? ⟨P, 1, none⟩ = false := frozen_of_box HY.out.2.1
              have fP2 : w9.frozen? ⟨P, 2, none⟩ = false := frozen_of_box HY.out.2.1
              have fP3 : w9.frozen? ⟨P, 3, none⟩ = false := frozen_of_box HY.out.2.1
              rw [HA0.out] at p1
              obtain ⟨o0, o1, o2, o3⟩ := box_cells xo9
              clear xo9
              refine hK.out _ _ ⟨o0, o3, e0, e1, e2, e5, p0, p1, p2, p3⟩ (fun hS1 => ?_)
              clear hK Kx hS0
              refine wpAnyH_take (i := 27) (v := ?_) rfl (by kernel_rfl) (by kernel_rfl) (by kernel_rfl) (fun _ _ _ h => h) (Or.inl ⟨by kernel_rfl, ?_⟩) (by assumption) ?_
              rotate_left 1
              · (intro w hSw; (try dsimp only at hSw); go_simp; try (with_reducible rfl))
              refine wpAnyH_take (i := 28) (v := ?_) rfl (by kernel_rfl) (by kernel_rfl) (by kernel_rfl) (fun _ _ _ h => h) (Or.inl ⟨by kernel_rfl, ?_⟩) (by assumption) ?_
              rotate_left 1
              · (intro w hSw; (try dsimp only at hSw); go_simp; try (with_reducible rfl))
              refine wpAnyH_take (i := 29) (v := ?_) rfl (by kernel_rfl) (by kernel_rfl) (by kernel_rfl) (fun _ _ _ h => h) (Or.inl ⟨by kernel_rfl, ?_⟩) (by assumption) ?_
              rotate_left 1
              · (intro w hSw; (try dsimp only at hSw); go_simp; try (with_reducible rfl))
              refine wpAnyH_done (by kernel_rfl) ?_ _
              go_simp
              go_wp2
              go_roundw
              case rel => exact ⟨q + 1, by omega, by go_num, HY.out⟩
              case measure => simp [intOf]; omega
            · clear hsame
              have tn2 : ((bX R1 q).state == 2) = false := by rw [hnow]; rfl
              have tn3 : ((bX R1 q).state == 3) = false := by rw [hnow]; rfl
              have tn4 : ((bX R1 q).state == 4) = true := by rw [hnow]; rfl
              have tn5 : ((bX R1 q).state == 5) = false := by rw [hnow]; rfl
              have ts1 : ((bX B0 q).state == 3) = true := by rw [f2]; rfl
              have to2 : (E.op == 4) = true := by rw [f3]; rfl
              have tk : (E.of_ == (q : Int)) = true := by rw [f4]; simp
              have th := strEq_t f5.symm
              clear hnow f2 f3 f4 f5
              go_wp2
              go_roundw
              case rel => exact ⟨q + 1, by omega, by go_num, HZ2.out⟩
              case measure => simp [intOf]; omega
            · clear hsame
              rcases f2 with f2 | f2
              · rcases f4 with f4 | ⟨f4, f5⟩
                · skip
                  have tn2 : ((bX R1 q).state == 2) = false := by rw [hnow]; rfl
                  have tn3 : ((bX R1 q).state == 3) = false := by rw [hnow]; rfl
                  have tn4 : ((bX R1 q).state == 4) = false := by rw [hnow]; rfl
                  have tn5 : ((bX R1 q).state == 5) = true := by rw [hnow]; rfl
                  have ts1 : ((bX B0 q).state == 1) = true := by rw [f2]; rfl
                  have ts2 : ((bX B0 q).state == 2) = false := by rw [f2]; rfl
                  have to5 : (E.op == 5) = true := by rw [f4]; rfl
                  have to3 : (E.op == 3) = false := by rw [f4]; rfl
                  have tk : (E.of_ == (q : Int)) = true := by rw [f3]; simp
                  clear hnow f2 f3 f4
                  go_upto_region 28 with (fail)
                  refine wp_region_held_drew (S := (fun w' => w'.cell? ⟨wr.heap.size, 0, none⟩ = some (.string (bX B0 q).holder) ∧ w'.cell? ⟨wr.heap.size, 3, none⟩ = some (.int .i64 (bX B0 q).state) ∧ w'.cell? ⟨wo.heap.size + 1, 0, none⟩ = some (.int .i64 E.op) ∧ w'.cell? ⟨wo.heap.size + 1, 1, none⟩ = some (.int .i64 E.of_) ∧ w'.cell? ⟨wo.heap.size + 1, 2, none⟩ = some (.string E.holder) ∧ w'.cell? ⟨wo.heap.size + 1, 5, none⟩ = some (.string E.text) ∧ w'.cell? ⟨P, 0, none⟩ = some (.int .i64 B0.n) ∧ w'.cell? ⟨P, 1, none⟩ = some (.slice (some ⟨k0.G, 0, none⟩) B0.orders.length s0.co) ∧ w'.cell? ⟨P, 2, none⟩ = some (.slice s0.al B0.locked.length s0.cl) ∧ w'.cell? ⟨P, 3, none⟩ = some (.slice s0.ac B0.occ.length s0.cc))) (by kernel_rfl) (by simp [go_sem, o0, o3, e0, e1, e2, e5, p0, p1, p2, p3]) (fun hS0 => ?_)
                  refine wpAnyH_take (i := 0) (v := ?_) rfl (by kernel_rfl) (by kernel_rfl) (by kernel_rfl) (fun _ _ _ h => h) (Or.inl ⟨by kernel_rfl, ?_⟩) (by assumption) ?_
                  rotate_left 1
                  · (intro w hSw; (try dsimp only at hSw); go_simp; try (with_reducible rfl))
                  refine wpAnyH_take (i := 1) (v := ?_) rfl (by kernel_rfl) (by kernel_rfl) (by kernel_rfl) (fun _ _ _ h => h) (Or.inl ⟨by kernel_rfl, ?_⟩) (by assumption) ?_
                  rotate_left 1
                  · (intro w hSw; (try dsimp only at hSw); go_simp; try (with_reducible rfl))
                  refine wpAnyH_take (i := 2) (v := ?_) rfl (by kernel_rfl) (by kernel_rfl) (by kernel_rfl) (fun _ _ _ h => h) (Or.inl ⟨by kernel_rfl, ?_⟩) (by assumption) ?_
                  rotate_left 1
                  · (intro w hSw; (try dsimp only at hSw); go_simp; try (with_reducible rfl))
                  refine wpAnyH_take (i := 3) (v := ?_) rfl (by kernel_rfl) (by kernel_rfl) (by kernel_rfl) (fun _ _ _ h => h) (Or.inl ⟨by kernel_rfl, ?_⟩) (by assumption) ?_
                  rotate_left 1
                  · (intro w hSw; (try dsimp only at hSw); go_simp; try (with_reducible rfl))
                  refine wpAnyH_take (i := 4) (v := undef) rfl (by kernel_rfl) (by kernel_rfl) (by kernel_rfl) (fun _ _ _ h => h) (Or.inr ⟨by kernel_rfl, rfl⟩) (by assumption) ?_
                  refine wpAnyH_take (i := 5) (v := undef) rfl (by kernel_rfl) (by kernel_rfl) (by kernel_rfl) (fun _ _ _ h => h) (Or.inr ⟨by kernel_rfl, rfl⟩) (by assumption) ?_
                  refine wpAnyH_take (i := 6) (v := undef) rfl (by kernel_rfl) (by kernel_rfl) (by kernel_rfl) (fun _ _ _ h => h) (Or.inr ⟨by kernel_rfl, rfl⟩) (by assumption) ?_
                  refine wpAnyH_take (i := 7) (v := ?_) rfl (by kernel_rfl) (by kernel_rfl) (by kernel_rfl) (fun _ _ _ h => h) (Or.inl ⟨by kernel_rfl, ?_⟩) (by assumption) ?_
                  rotate_left 1
                  · (intro w hSw; (try dsimp only at hSw); go_simp; try (with_reducible rfl))
                  refine wpAnyH_take (i := 8) (v := ?_) rfl (by kernel_rfl) (by kernel_rfl) (by kernel_rfl) (fun _ _ _ h => h) (Or.inl ⟨by kernel_rfl, ?_⟩) (by assumption) ?_
                  rotate_left 1
                  · (intro w hSw; (try dsimp only at hSw); go_simp; try (with_reducible rfl))
                  refine wpAnyH_take (i := 9) (v := ?_) rfl (by kernel_rfl) (by kernel_rfl) (by kernel_rfl) (fun _ _ _ h => h) (Or.inl ⟨by kernel_rfl, ?_⟩) (by assumption) ?_
                  rotate_left 1
                  · (intro w hSw; (try dsimp only at hSw); go_simp; try (with_reducible rfl))
                  refine wpAnyH_take (i := 10) (v := ?_) rfl (by kernel_rfl) (by kernel_rfl) (by kernel_rfl) (fun _ _ _ h => h) (Or.inl ⟨by kernel_rfl, ?_⟩) (by assumption) ?_
                  rotate_left 1
                  · (intro w hSw; (try dsimp only at hSw); go_simp; try (with_reducible rfl))
                  refine wpAnyH_take (i := 11) (v := ?_) rfl (by kernel_rfl) (by kernel_rfl) (by kernel_rfl) (fun _ _ _ h => h) (Or.inl ⟨by kernel_rfl, ?_⟩) (by assumption) ?_
                  rotate_left 1
                  · (intro w hSw; (try dsimp only at hSw); go_simp; try (with_reducible rfl))
                  refine wpAnyH_take (i := 12) (v := ?_) rfl (by kernel_rfl) (by kernel_rfl) (by kernel_rfl) (fun _ _ _ h => h) (Or.inl ⟨by kernel_rfl, ?_⟩) (by assumption) ?_
                  rotate_left 1
                  · (intro w hSw; (try dsimp only at hSw); go_simp; try (with_reducible rfl))
                  refine wpAnyH_take (i := 13) (v := ?_) rfl (by kernel_rfl) (by kernel_rfl) (by kernel_rfl) (fun _ _ _ h => h) (Or.inl ⟨by kernel_rfl, ?_⟩) (by assumption) ?_
                  rotate_left 1
                  · (intro w hSw; (try dsimp only at hSw); go_simp; try (with_reducible rfl))
                  refine wpAnyH_take (i := 14) (v := ?_) rfl (by kernel_rfl) (by kernel_rfl) (by kernel_rfl) (fun _ _ _ h => h) (Or.inl ⟨by kernel_rfl, ?_⟩) (by assumption) ?_
                  rotate_left 1
                  · (intro w hSw; (try dsimp only at hSw); go_simp; try (with_reducible rfl))
                  refine wpAnyH_take (i := 15) (v := ?_) rfl (by kernel_rfl) (by kernel_rfl) (by kernel_rfl) (fun _ _ _ h => h) (Or.inl ⟨by kernel_rfl, ?_⟩) (by assumption) ?_
                  rotate_left 1
                  · (intro w hSw; (try dsimp only at hSw); go_simp; try (with_reducible rfl))
                  refine wpAnyH_take (i := 16) (v := ?_) rfl (by kernel_rfl) (by kernel_rfl) (by kernel_rfl) (fun _ _ _ h => h) (Or.inl ⟨by kernel_rfl, ?_⟩) (by assumption) ?_
                  rotate_left 1
                  · (intro w hSw; (try dsimp only at hSw); go_simp; try (with_reducible rfl))
                  refine wpAnyH_take (i := 17) (v := ?_) rfl (by kernel_rfl) (by kernel_rfl) (by kernel_rfl) (fun _ _ _ h => h) (Or.inl ⟨by kernel_rfl, ?_⟩) (by assumption) ?_
                  rotate_left 1
                  · (intro w hSw; (try dsimp only at hSw); go_simp; try (with_reducible rfl))
                  refine wpAnyH_take (i := 18) (v := ?_) rfl (by kernel_rfl) (by kernel_rfl) (by kernel_rfl) (fun _ _ _ h => h) (Or.inl ⟨by kernel_rfl, ?_⟩) (by assumption) ?_
                  rotate_left 1
                  · (intro w hSw; (try dsimp only at hSw); go_simp; try (with_reducible rfl))
                  refine wpAnyH_take (i := 19) (v := undef) rfl (by kernel_rfl) (by kernel_rfl) (by kernel_rfl) (fun _ _ _ h => h) (Or.inr ⟨by kernel_rfl, rfl⟩) (by assumption) ?_
                  refine wpAnyH_take (i := 20) (v := undef) rfl (by kernel_rfl) (by kernel_rfl) (by kernel_rfl) (fun _ _ _ h => h) (Or.inr ⟨by kernel_rfl, rfl⟩) (by assumption) ?_
                  refine wpAnyH_take (i := 21) (v := undef) rfl (by kernel_rfl) (by kernel_rfl) (by kernel_rfl) (fun _ _ _ h => h) (Or.inr ⟨by kernel_rfl, rfl⟩) (by assumption) ?_
                  refine wpAnyH_take (i := 22) (v := undef) rfl (by kernel_rfl) (by kernel_rfl) (by kernel_rfl) (fun _ _ _ h => h) (Or.inr ⟨by kernel_rfl, rfl⟩) (by assumption) ?_
                  refine wpAnyH_take (i := 23) (v := undef) rfl (by kernel_rfl) (by kernel_rfl) (by kernel_rfl) (fun _ _ _ h => h) (Or.inr ⟨by kernel_rfl, rfl⟩) (by assumption) ?_
                  refine wpAnyH_take (i := 24) (v := undef) rfl (by kernel_rfl) (by kernel_rfl) (by kernel_rfl) (fun _ _ _ h => h) (Or.inr ⟨by kernel_rfl, rfl⟩) (by assumption) ?_
                  refine wpAnyH_take (i := 25) (v := undef) rfl (by kernel_rfl) (by kernel_rfl) (by kernel_rfl) (fun _ _ _ h => h) (Or.inr ⟨by kernel_rfl, rfl⟩) (by assumption) ?_
                  refine wpAnyH_take (i := 26) (v := undef) rfl (by kernel_rfl) (by kernel_rfl) (by kernel_rfl) (fun _ _ _ h => h) (Or.inr ⟨by kernel_rfl, rfl⟩) (by assumption) ?_
                  refine wpAnyH_take (i := 27) (v := undef) rfl (by kernel_rfl) (by kernel_rfl) (by kernel_rfl) (fun _ _ _ h => h) (Or.inr ⟨by kernel_rfl, rfl⟩) (by assumption) ?_
                  refine wpAnyH_take (i := 28) (v := undef) rfl (by kernel_rfl) (by kernel_rfl) (by kernel_rfl) (fun _ _ _ h => h) (Or.inr ⟨by kernel_rfl, rfl⟩) (by assumption) ?_
                  refine wpAnyH_take (i := 29) (v := undef) rfl (by kernel_rfl) (by kernel_rfl) (by kernel_rfl) (fun _ _ _ h => h) (Or.inr ⟨by kernel_rfl, rfl⟩) (by assumption) ?_
                  refine wpAnyH_take (i := 30) (v := ?_) rfl (by kernel_rfl) (by kernel_rfl) (by kernel_rfl) (fun _ _ _ h => h) (Or.inl ⟨by kernel_rfl, ?_⟩) (by assumption) ?_
                  rotate_left 1
                  · (intro w hSw; (try dsimp only at hSw); go_simp; try (with_reducible rfl))
                  refine wpAnyH_take (i := 31) (v := ?_) rfl (by kernel_rfl) (by kernel_rfl) (by kernel_rfl) (fun _ _ _ h => h) (Or.inl ⟨by kernel_rfl, ?_⟩) (by assumption) ?_
                  rotate_left 1
                  · (intro w hSw; (try dsimp only at hSw); go_simp; try (with_reducible rfl))
                  refine wpAnyH_take (i := 32) (v := ?_) rfl (by kernel_rfl) (by kernel_rfl) (by kernel_rfl) (fun _ _ _ h => h) (Or.inl ⟨by kernel_rfl, ?_⟩) (by assumption) ?_
                  rotate_left 1
                  · (intro w hSw; (try dsimp only at hSw); go_simp; try (with_reducible rfl))
                  refine wpAnyH_done (by kernel_rfl) ?_ _
                  go_simp
                  have HY : Hid (Fr (fun x => x = P) w3 Z2.drew ∧ Z2.drew.heap[P]? = some (.cells #[.int .i64 B0.n, .slice s0.ao B0.orders.length s0.co, .slice s0.al B0.locked.length s0.cl, .slice s0.ac B0.occ.length s0.cc] 29 (0, 0)) ∧ Z2.drew.heap[wo.heap.size]? = some (.cells #[.int .i64 cd, .int .i64 R1.n, .slice s1.ao R1.orders.length s1.co, .slice s1.al R1.locked.length s1.cl, .slice s1.ac R1.occ.length s1.cc] 34 (0, 0)) ∧ Z2.drew.heap[wo.heap.size + 1]? = some (.cells #[.int .i64 E.op, .int .i64 E.of_, .string E.holder, .int .i64 E.kind, .slice sa E.secs.length sc, .string E.text] 37 (0, 0)) ∧ OwnBook Z2.drew 0 (bookV B0 s0) B0 k0 ∧ OwnBook Z2.drew 0 (bookV R1 s1) R1 k1) := ⟨HZ2.out.1.drew', HZ2.out.2.1, HZ2.out.2.2.1, HZ2.out.2.2.2.1, HZ2.out.2.2.2.2.1.below (Below.refl _ _).drew, HZ2.out.2.2.2.2.2.below (Below.refl _ _).drew⟩
                  clear HZ2
                  go_wp2
                  go_roundw
                  case rel => exact ⟨q + 1, by omega, by go_num, HY.out⟩
                  case measure => simp [intOf]; omega
                · skip
                  have tn2 : ((bX R1 q).state == 2) = false := by rw [hnow]; rfl
                  have tn3 : ((bX R1 q).state == 3) = false := by rw [hnow]; rfl
                  have tn4 : ((bX R1 q).state == 4) = false := by rw [hnow]; rfl
                  have tn5 : ((bX R1 q).state == 5) = true := by rw [hnow]; rfl
                  have ts1 : ((bX B0 q).state == 1) = true := by rw [f2]; rfl
                  have ts2 : ((bX B0 q).state == 2) = false := by rw [f2]; rfl
                  have to5 : (E.op == 5) = false := by rw [f4]; rfl
                  have to3 : (E.op == 3) = true := by rw [f4]; rfl
                  have tk : (E.of_ == (q : Int)) = true := by rw [f3]; simp
                  have FT : Hid (¬ OrdT B0 q (bl E.text)) := f5
                  clear f5
                  clear hnow f2 f3 f4
                  go_upto_region 28 with (fail)
                  refine wp_region_held_drew (S := (fun w' => w'.cell? ⟨wr.heap.size, 0, none⟩ = some (.string (bX B0 q).holder) ∧ w'.cell? ⟨wr.heap.size, 3, none⟩ = some (.int .i64 (bX B0 q).state) ∧ w'.cell? ⟨wo.heap.size + 1, 0, none⟩ = some (.int .i64 E.op) ∧ w'.cell? ⟨wo.heap.size + 1, 1, none⟩ = some (.int .i64 E.of_) ∧ w'.cell? ⟨wo.heap.size + 1, 2, none⟩ = some (.string E.holder) ∧ w'.cell? ⟨wo.heap.size + 1, 5, none⟩ = some (.string E.text) ∧ w'.cell? ⟨P, 0, none⟩ = some (.int .i64 B0.n) ∧ w'.cell? ⟨P, 1, none⟩ = some (.slice (some ⟨k0.G, 0, none⟩) B0.orders.length s0.co) ∧ w'.cell? ⟨P, 2, none⟩ = some (.slice s0.al B0.locked.length s0.cl) ∧ w'.cell? ⟨P, 3, none⟩ = some (.slice s0.ac B0.occ.length s0.cc))) (by kernel_rfl) (by simp [go_sem, o0, o3, e0, e1, e2, e5, p0, p1, p2, p3]) (fun hS0 => ?_)
                  refine wpAnyH_take (i := 0) (v := ?_) rfl (by kernel_rfl) (by kernel_rfl) (by kernel_rfl) (fun _ _ _ h => h) (Or.inl ⟨by kernel_rfl, ?_⟩) (by assumption) ?_
                  rotate_left 1
                  · (intro w hSw; (try dsimp only at hSw); go_simp; try (with_reducible rfl))
                  refine wpAnyH_take (i := 1) (v := ?_) rfl (by kernel_rfl) (by kernel_rfl) (by kernel_rfl) (fun _ _ _ h => h) (Or.inl ⟨by kernel_rfl, ?_⟩) (by assumption) ?_
                  rotate_left 1
                  · (intro w hSw; (try dsimp only at hSw); go_simp; try (with_reducible rfl))
                  refine wpAnyH_take (i := 2) (v := ?_) rfl (by kernel_rfl) (by kernel_rfl) (by kernel_rfl) (fun _ _ _ h => h) (Or.inl ⟨by kernel_rfl, ?_⟩) (by assumption) ?_
                  rotate_left 1
                  · (intro w hSw; (try dsimp only at hSw); go_simp; try (with_reducible rfl))
                  refine wpAnyH_take (i := 3) (v := ?_) rfl (by kernel_rfl) (by kernel_rfl) (by kernel_rfl) (fun _ _ _ h => h) (Or.inl ⟨by kernel_rfl, ?_⟩) (by assumption) ?_
                  rotate_left 1
                  · (intro w hSw; (try dsimp only at hSw); go_simp; try (with_reducible rfl))
                  refine wpAnyH_take (i := 4) (v := undef) rfl (by kernel_rfl) (by kernel_rfl) (by kernel_rfl) (fun _ _ _ h => h) (Or.inr ⟨by kernel_rfl, rfl⟩) (by assumption) ?_
                  refine wpAnyH_take (i := 5) (v := undef) rfl (by kernel_rfl) (by kernel_rfl) (by kernel_rfl) (fun _ _ _ h => h) (Or.inr ⟨by kernel_rfl, rfl⟩) (by assumption) ?_
                  refine wpAnyH_take (i := 6) (v := undef) rfl (by kernel_rfl) (by kernel_rfl) (by kernel_rfl) (fun _ _ _ h => h) (Or.inr ⟨by kernel_rfl, rfl⟩) (by assumption) ?_
                  refine wpAnyH_take (i := 7) (v := ?_) rfl (by kernel_rfl) (by kernel_rfl) (by kernel_rfl) (fun _ _ _ h => h) (Or.inl ⟨by kernel_rfl, ?_⟩) (by assumption) ?_
                  rotate_left 1
                  · (intro w hSw; (try dsimp only at hSw); go_simp; try (with_reducible rfl))
                  refine wpAnyH_take (i := 8) (v := ?_) rfl (by kernel_rfl) (by kernel_rfl) (by kernel_rfl) (fun _ _ _ h => h) (Or.inl ⟨by kernel_rfl, ?_⟩) (by assumption) ?_
                  rotate_left 1
                  · (intro w hSw; (try dsimp only at hSw); go_simp; try (with_reducible rfl))
                  refine wpAnyH_take (i := 9) (v := ?_) rfl (by kernel_rfl) (by kernel_rfl) (by kernel_rfl) (fun _ _ _ h => h) (Or.inl ⟨by kernel_rfl, ?_⟩) (by assumption) ?_
                  rotate_left 1
                  · (intro w hSw; (try dsimp only at hSw); go_simp; try (with_reducible rfl))
                  refine wpAnyH_take (i := 10) (v := ?_) rfl (by kernel_rfl) (by kernel_rfl) (by kernel_rfl) (fun _ _ _ h => h) (Or.inl ⟨by kernel_rfl, ?_⟩) (by assumption) ?_
                  rotate_left 1
                  · (intro w hSw; (try dsimp only at hSw); go_simp; try (with_reducible rfl))
                  refine wpAnyH_take (i := 11) (v := ?_) rfl (by kernel_rfl) (by kernel_rfl) (by kernel_rfl) (fun _ _ _ h => h) (Or.inl ⟨by kernel_rfl, ?_⟩) (by assumption) ?_
                  rotate_left 1
                  · (intro w hSw; (try dsimp only at hSw); go_simp; try (with_reducible rfl))
                  refine wpAnyH_take (i := 12) (v := ?_) rfl (by kernel_rfl) (by kernel_rfl) (by kernel_rfl) (fun _ _ _ h => h) (Or.inl ⟨by kernel_rfl, ?_⟩) (by assumption) ?_
                  rotate_left 1
                  · (intro w hSw; (try dsimp only at hSw); go_simp; try (with_reducible rfl))
                  refine wpAnyH_take (i := 13) (v := ?_) rfl (by kernel_rfl) (by kernel_rfl) (by kernel_rfl) (fun _ _ _ h => h) (Or.inl ⟨by kernel_rfl, ?_⟩) (by assumption) ?_
                  rotate_left 1
                  · (intro w hSw; (try dsimp only at hSw); go_simp; try (with_reducible rfl))
                  refine wpAnyH_take (i := 14) (v := ?_) rfl (by kernel_rfl) (by kernel_rfl) (by kernel_rfl) (fun _ _ _ h => h) (Or.inl ⟨by kernel_rfl, ?_⟩) (by assumption) ?_
                  rotate_left 1
                  · (intro w hSw; (try dsimp only at hSw); go_simp; try (with_reducible rfl))
                  refine wpAnyH_take (i := 15) (v := ?_) rfl (by kernel_rfl) (by kernel_rfl) (by kernel_rfl) (fun _ _ _ h => h) (Or.inl ⟨by kernel_rfl, ?_⟩) (by assumption) ?_
                  rotate_left 1
                  · (intro w hSw; (try dsimp only at hSw); go_simp; try (with_reducible rfl))
                  refine wpAnyH_take (i := 16) (v := ?_) rfl (by kernel_rfl) (by kernel_rfl) (by kernel_rfl) (fun _ _ _ h => h) (Or.inl ⟨by kernel_rfl, ?_⟩) (by assumption) ?_
                  rotate_left 1
                  · (intro w hSw; (try dsimp only at hSw); go_simp; try (with_reducible rfl))
                  refine wpAnyH_take (i := 17) (v := ?_) rfl (by kernel_rfl) (by kernel_rfl) (by kernel_rfl) (fun _ _ _ h => h) (Or.inl ⟨by kernel_rfl, ?_⟩) (by assumption) ?_
                  rotate_left 1
                  · (intro w hSw; (try dsimp only at hSw); go_simp; try (with_reducible rfl))
                  refine wpAnyH_take (i := 18) (v := ?_) rfl (by kernel_rfl) (by kernel_rfl) (by kernel_rfl) (fun _ _ _ h => h) (Or.inl ⟨by kernel_rfl, ?_⟩) (by assumption) ?_
                  rotate_left 1
                  · (intro w hSw; (try dsimp only at hSw); go_simp; try (with_reducible rfl))
                  refine wpAnyH_take (i := 19) (v := ?_) rfl (by kernel_rfl) (by kernel_rfl) (by kernel_rfl) (fun _ _ _ h => h) (Or.inl ⟨by kernel_rfl, ?_⟩) (by assumption) ?_
                  rotate_left 1
                  · (intro w hSw; (try dsimp only at hSw); go_simp; try (with_reducible rfl))
                  refine wpAnyH_take (i := 20) (v := ?_) rfl (by kernel_rfl) (by kernel_rfl) (by kernel_rfl) (fun _ _ _ h => h) (Or.inl ⟨by kernel_rfl, ?_⟩) (by assumption) ?_
                  rotate_left 1
                  · (intro w hSw; (try dsimp only at hSw); go_simp; try (with_reducible rfl))
                  refine wpAnyH_take (i := 21) (v := ?_) rfl (by kernel_rfl) (by kernel_rfl) (by kernel_rfl) (fun _ _ _ h => h) (Or.inl ⟨by kernel_rfl, ?_⟩) (by assumption) ?_
                  rotate_left 1
                  · (intro w hSw; (try dsimp only at hSw); go_simp; try (with_reducible rfl))
                  refine wpAnyH_take (i := 22) (v := ?_) rfl (by kernel_rfl) (by kernel_rfl) (by kernel_rfl) (fun _ _ _ h => h) (Or.inl ⟨by kernel_rfl, ?_⟩) (by assumption) ?_
                  rotate_left 1
                  · (intro w hSw; (try dsimp only at hSw); go_simp; try (with_reducible rfl))
                  refine wpAnyH_take (i := 23) (v := ?_) rfl (by kernel_rfl) (by kernel_rfl) (by kernel_rfl) (fun _ _ _ h => h) (Or.inl ⟨by kernel_rfl, ?_⟩) (by assumption) ?_
                  rotate_left 1
                  · (intro w hSw; (try dsimp only at hSw); go_simp; try (with_reducible rfl))
                  refine wpAnyH_take (i := 24) (v := ?_) rfl (by kernel_rfl) (by kernel_rfl) (by kernel_rfl) (fun _ _ _ h => h) (Or.inl ⟨by kernel_rfl, ?_⟩) (by assumption) ?_
                  rotate_left 1
                  · (intro w hSw; (try dsimp only at hSw); go_simp; try (with_reducible rfl))
                  refine wpAnyH_take (i := 25) (v := ?_) rfl (by kernel_rfl) (by kernel_rfl) (by kernel_rfl) (fun _ _ _ h => h) (Or.inl ⟨by kernel_rfl, ?_⟩) (by assumption) ?_
                  rotate_left 1
                  · (intro w hSw; (try dsimp only at hSw); go_simp; try (with_reducible rfl))
                  refine wpAnyH_take (i := 26) (v := ?_) rfl (by kernel_rfl) (by kernel_rfl) (by kernel_rfl) (fun _ _ _ h => h) (Or.inl ⟨by kernel_rfl, ?_⟩) (by assumption) ?_
                  rotate_left 1
                  · (intro w hSw; (try dsimp only at hSw); go_simp; try (with_reducible rfl))
                  refine wpAnyH_ready (rs := [27]) (by kernel_rfl) (by simp) ?_
                  refine AllReadyH.cons rfl (fun Kx hK => ?_) (AllReadyH.nil)
                  go_simp
                  refine (specOrderText_any _ B0 (q : Int) _ HF.out.2.2.1.1 HF.out.2.2.1.2 hnb (HBK.out.below (Below.refl _ _).drew)).mono ?_
                  rintro e w9 ⟨⟨y9, rfl, hy9⟩, hb9⟩
                  have hne := text_other HF.out.1 hqlt hy9 FT.out
                  have ty := strEq_f hne
                  have HY : Hid (Fr (fun x => x = P) w3 w9 ∧ w9.heap[P]? = some (.cells #[.int .i64 B0.n, .slice s0.ao B0.orders.length s0.co, .slice s0.al B0.locked.length s0.cl, .slice s0.ac B0.occ.length s0.cc] 29 (0, 0)) ∧ w9.heap[wo.heap.size]? = some (.cells #[.int .i64 cd, .int .i64 R1.n, .slice s1.ao R1.orders.length s1.co, .slice s1.al R1.locked.length s1.cl, .slice s1.ac R1.occ.length s1.cc] 34 (0, 0)) ∧ w9.heap[wo.heap.size + 1]? = some (.cells #[.int .i64 E.op, .int .i64 E.of_, .string E.holder, .int .i64 E.kind, .slice sa E.secs.length sc, .string E.text] 37 (0, 0)) ∧ OwnBook w9 0 (bookV B0 s0) B0 k0 ∧ OwnBook w9 0 (bookV R1 s1) R1 k1) := ⟨HZ2.out.1.drew'.trans (Fr.of_below hb9), (hb9.block _ zP).trans HZ2.out.2.1, (hb9.block _ zd).trans HZ2.out.2.2.1, (hb9.block _ ze).trans HZ2.out.2.2.2.1, (HZ2.out.2.2.2.2.1.below (Below.refl _ _).drew).below hb9, (HZ2.out.2.2.2.2.2.below (Below.refl _ _).drew).below hb9⟩
                  have xo9 := (hb9.block _ zo).trans HOB.out
                  clear hy9 hb9 HZ2 HOB p0 p1 p2 p3 d0 d1 d2 d3 d4 e0 e1 e2 e3 e4 e5 zP zd ze fP0 fP1 fP2 fP3 o0 o1 o2 o3 zo
                  obtain ⟨p0, p1, p2, p3⟩ := box_cells HY.out.2.1
                  obtain ⟨d0, d1, d2, d3, d4⟩ := dcells HY.out.2.2.1
                  obtain ⟨e0, e1, e2, e3, e4, e5⟩ := ev_cells HY.out.2.2.2.1
                  have zP : P < w9.heap.size := (Array.getElem?_eq_some_iff.1 HY.out.2.1).1
                  have zd : wo.heap.size < w9.heap.size := (Array.getElem?_eq_some_iff.1 HY.out.2.2.1).1
                  have ze : wo.heap.size + 1 < w9.heap.size := (Array.getElem?_eq_some_iff.1 HY.out.2.2.2.1).1
                  have fP0 : w9.frozen? ⟨P, 0, none⟩ = false := frozen_of_box HY.out.2.1
                  have fP1 : w9.frozen? ⟨P, 1, none⟩ = false := frozen_of_box HY.out.2.1
                  have fP2 : w9.frozen? ⟨P, 2, none⟩ = false := frozen_of_box HY.out.2.1
                  have fP3 : w9.frozen? ⟨P, 3, none⟩ = false := frozen_of_box HY.out.2.1
                  rw [HA0.out] at p1
                  obtain ⟨o0, o1, o2, o3⟩ := box_cells xo9
                  clear xo9
                  refine hK.out _ _ ⟨o0, o3, e0, e1, e2, e5, p0, p1, p2, p3⟩ (fun hS1 => ?_)
                  clear hK Kx hS0
                  refine wpAnyH_take (i := 28) (v := ?_) rfl (by kernel_rfl) (by kernel_rfl) (by kernel_rfl) (fun _ _ _ h => h) (Or.inl ⟨by kernel_rfl, ?_⟩) (by assumption) ?_
                  rotate_left 1
                  · (intro w hSw; (try dsimp only at hSw); go_simp; try (with_reducible rfl))
                  refine wpAnyH_take (i := 29) (v := ?_) rfl (by kernel_rfl) (by kernel_rfl) (by kernel_rfl) (fun _ _ _ h => h) (Or.inl ⟨by kernel_rfl, ?_⟩) (by assumption) ?_
                  rotate_left 1
                  · (intro w hSw; (try dsimp only at hSw); go_simp; try (with_reducible rfl))
                  refine wpAnyH_take (i := 30) (v := ?_) rfl (by kernel_rfl) (by kernel_rfl) (by kernel_rfl) (fun _ _ _ h => h) (Or.inl ⟨by kernel_rfl, ?_⟩) (by assumption) ?_
                  rotate_left 1
                  · (intro w hSw; (try dsimp only at hSw); go_simp; try (with_reducible rfl))
                  refine wpAnyH_take (i := 31) (v := ?_) rfl (by kernel_rfl) (by kernel_rfl) (by kernel_rfl) (fun _ _ _ h => h) (Or.inl ⟨by kernel_rfl, ?_⟩) (by assumption) ?_
                  rotate_left 1
                  · (intro w hSw; (try dsimp only at hSw); go_simp; try (with_reducible rfl))
                  refine wpAnyH_take (i := 32) (v := ?_) rfl (by kernel_rfl) (by kernel_rfl) (by kernel_rfl) (fun _ _ _ h => h) (Or.inl ⟨by kernel_rfl, ?_⟩) (by assumption) ?_
                  rotate_left 1
                  · (intro w hSw; (try dsimp only at hSw); go_simp; try (with_reducible rfl))
                  refine wpAnyH_done (by kernel_rfl) ?_ _
                  go_simp
                  go_wp2
                  go_roundw
                  case rel => exact ⟨q + 1, by omega, by go_num, HY.out⟩
                  case measure => simp [intOf]; omega
              · rcases f4 with f4 | ⟨f4, f5⟩
                · skip
                  have tn2 : ((bX R1 q).state == 2) = false := by rw [hnow]; rfl
                  have tn3 : ((bX R1 q).state == 3) = false := by rw [hnow]; rfl
                  have tn4 : ((bX R1 q).state == 4) = false := by rw [hnow]; rfl
                  have tn5 : ((bX R1 q).state == 5) = true := by rw [hnow]; rfl
                  have ts1 : ((bX B0 q).state == 1) = false := by rw [f2]; rfl
                  have ts2 : ((bX B0 q).state == 2) = true := by rw [f2]; rfl
                  have to5 : (E.op == 5) = true := by rw [f4]; rfl
                  have to3 : (E.op == 3) = false := by rw [f4]; rfl
                  have tk : (E.of_ == (q : Int)) = true := by rw [f3]; simp
                  clear hnow f2 f3 f4
                  go_upto_region 28 with (fail)
                  refine wp_region_held_drew (S := (fun w' => w'.cell? ⟨wr.heap.size, 0, none⟩ = some (.string (bX B0 q).holder) ∧ w'.cell? ⟨wr.heap.size, 3, none⟩ = some (.int .i64 (bX B0 q).state) ∧ w'.cell? ⟨wo.heap.size + 1, 0, none⟩ = some (.int .i64 E.op) ∧ w'.cell? ⟨wo.heap.size + 1, 1, none⟩ = some (.int .i64 E.of_) ∧ w'.cell? ⟨wo.heap.size + 1, 2, none⟩ = some (.string E.holder) ∧ w'.cell? ⟨wo.heap.size + 1, 5, none⟩ = some (.string E.text) ∧ w'.cell? ⟨P, 0, none⟩ = some (.int .i64 B0.n) ∧ w'.cell? ⟨P, 1, none⟩ = some (.slice (some ⟨k0.G, 0, none⟩) B0.orders.length s0.co) ∧ w'.cell? ⟨P, 2, none⟩ = some (.slice s0.al B0.locked.length s0.cl) ∧ w'.cell? ⟨P, 3, none⟩ = some (.slice s0.ac B0.occ.length s0.cc))) (by kernel_rfl) (by simp [go_sem, o0, o3, e0, e1, e2, e5, p0, p1, p2, p3]) (fun hS0 => ?_)
                  refine wpAnyH_take (i := 0) (v := ?_) rfl (by kernel_rfl) (by kernel_rfl) (by kernel_rfl) (fun _ _ _ h => h) (Or.inl ⟨by kernel_rfl, ?_⟩) (by assumption) ?_
                  rotate_left 1
                  · (intro w hSw; (try dsimp only at hSw); go_simp; try (with_reducible rfl))
                  refine wpAnyH_take (i := 1) (v := ?_) rfl (by kernel_rfl) (by kernel_rfl) (by kernel_rfl) (fun _ _ _ h => h) (Or.inl ⟨by kernel_rfl, ?_⟩) (by assumption) ?_
                  rotate_left 1
                  · (intro w hSw; (try dsimp only at hSw); go_simp; try (with_reducible rfl))
                  refine wpAnyH_take (i := 2) (v := ?_) rfl (by kernel_rfl) (by kernel_rfl) (by kernel_rfl) (fun _ _ _ h => h) (Or.inl ⟨by kernel_rfl, ?_⟩) (by assumption) ?_
                  rotate_left 1
                  · (intro w hSw; (try dsimp only at hSw); go_simp; try (with_reducible rfl))
                  refine wpAnyH_take (i := 3) (v := ?_) rfl (by kernel_rfl) (by kernel_rfl) (by kernel_rfl) (fun _ _ _ h => h) (Or.inl ⟨by kernel_rfl, ?_⟩) (by assumption) ?_
                  rotate_left 1
                  · (intro w hSw; (try dsimp only at hSw); go_simp; try (with_reducible rfl))
                  refine wpAnyH_take (i := 4) (v := ?_) rfl (by kernel_rfl) (by kernel_rfl) (by kernel_rfl) (fun _ _ _ h => h) (Or.inl ⟨by kernel_rfl, ?_⟩) (by assumption) ?_
                  rotate_left 1
                  · (intro w hSw; (try dsimp only at hSw); go_simp; try (with_reducible rfl))
                  refine wpAnyH_take (i := 5) (v := ?_) rfl (by kernel_rfl) (by kernel_rfl) (by kernel_rfl) (fun _ _ _ h => h) (Or.inl ⟨by kernel_rfl, ?_⟩) (by assumption) ?_
                  rotate_left 1
                  · (intro w hSw; (try dsimp only at hSw); go_simp; try (with_reducible rfl))
                  refine wpAnyH_take (i := 6) (v := ?_) rfl (by kernel_rfl) (by kernel_rfl) (by kernel_rfl) (fun _ _ _ h => h) (Or.inl ⟨by kernel_rfl, ?_⟩) (by assumption) ?_
                  rotate_left 1
                  · (intro w hSw; (try dsimp only at hSw); go_simp; try (with_reducible rfl))
                  refine wpAnyH_take (i := 7) (v := ?_) rfl (by kernel_rfl) (by kernel_rfl) (by kernel_rfl) (fun _ _ _ h => h) (Or.inl ⟨by kernel_rfl, ?_⟩) (by assumption) ?_
                  rotate_left 1
                  · (intro w hSw; (try dsimp only at hSw); go_simp; try (with_reducible rfl))
                  refine wpAnyH_take (i := 8) (v := ?_) rfl (by kernel_rfl) (by kernel_rfl) (by kernel_rfl) (fun _ _ _ h => h) (Or.inl ⟨by kernel_rfl, ?_⟩) (by assumption) ?_
                  rotate_left 1
                  · (intro w hSw; (try dsimp only at hSw); go_simp; try (with_reducible rfl))
                  refine wpAnyH_take (i := 9) (v := ?_) rfl (by kernel_rfl) (by kernel_rfl) (by kernel_rfl) (fun _ _ _ h => h) (Or.inl ⟨by kernel_rfl, ?_⟩) (by assumption) ?_
                  rotate_left 1
                  · (intro w hSw; (try dsimp only at hSw); go_simp; try (with_reducible rfl))
                  refine wpAnyH_take (i := 10) (v := ?_) rfl (by kernel_rfl) (by kernel_rfl) (by kernel_rfl) (fun _ _ _ h => h) (Or.inl ⟨by kernel_rfl, ?_⟩) (by assumption) ?_
                  rotate_left 1
                  · (intro w hSw; (try dsimp only at hSw); go_simp; try (with_reducible rfl))
                  refine wpAnyH_take (i := 11) (v := ?_) rfl (by kernel_rfl) (by kernel_rfl) (by kernel_rfl) (fun _ _ _ h => h) (Or.inl ⟨by kernel_rfl, ?_⟩) (by assumption) ?_
                  rotate_left 1
                  · (intro w hSw; (try dsimp only at hSw); go_simp; try (with_reducible rfl))
                  refine wpAnyH_take (i := 12) (v := ?_) rfl (by kernel_rfl) (by kernel_rfl) (by kernel_rfl) (fun _ _ _ h => h) (Or.inl ⟨by kernel_rfl, ?_⟩) (by assumption) ?_
                  rotate_left 1
                  · (intro w hSw; (try dsimp only at hSw); go_simp; try (with_reducible rfl))
                  refine wpAnyH_take (i := 13) (v := ?_) rfl (by kernel_rfl) (by kernel_rfl) (by kernel_rfl) (fun _ _ _ h => h) (Or.inl ⟨by kernel_rfl, ?_⟩) (by assumption) ?_
                  rotate_left 1
                  · (intro w hSw; (try dsimp only at hSw); go_simp; try (with_reducible rfl))
                  refine wpAnyH_take (i := 14) (v := ?_) rfl (by kernel_rfl) (by kernel_rfl) (by kernel_rfl) (fun _ _ _ h => h) (Or.inl ⟨by kernel_rfl, ?_⟩) (by assumption) ?_
                  rotate_left 1
                  · (intro w hSw; (try dsimp only at hSw); go_simp; try (with_reducible rfl))
                  refine wpAnyH_take (i := 15) (v := ?_) rfl (by kernel_rfl) (by kernel_rfl) (by kernel_rfl) (fun _ _ _ h => h) (Or.inl ⟨by kernel_rfl, ?_⟩) (by assumption) ?_
                  rotate_left 1
                  · (intro w hSw; (try dsimp only at hSw); go_simp; try (with_reducible rfl))
                  refine wpAnyH_take (i := 16) (v := ?_) rfl (by kernel_rfl) (by kernel_rfl) (by kernel_rfl) (fun _ _ _ h => h) (Or.inl ⟨by kernel_rfl, ?_⟩) (by assumption) ?_
                  rotate_left 1
                  · (intro w hSw; (try dsimp only at hSw); go_simp; try (with_reducible rfl))
                  refine wpAnyH_take (i := 17) (v := ?_) rfl (by kernel_rfl) (by kernel_rfl) (by kernel_rfl) (fun _ _ _ h => h) (Or.inl ⟨by kernel_rfl, ?_⟩) (by assumption) ?_
                  rotate_left 1
                  · (intro w hSw; (try dsimp only at hSw); go_simp; try (with_reducible rfl))
                  refine wpAnyH_take (i := 18) (v := ?_) rfl (by kernel_rfl) (by kernel_rfl) (by kernel_rfl) (fun _ _ _ h => h) (Or.inl ⟨by kernel_rfl, ?_⟩) (by assumption) ?_
                  rotate_left 1
                  · (intro w hSw; (try dsimp only at hSw); go_simp; try (with_reducible rfl))
                  refine wpAnyH_take (i := 19) (v := undef) rfl (by kernel_rfl) (by kernel_rfl) (by kernel_rfl) (fun _ _ _ h => h) (Or.inr ⟨by kernel_rfl, rfl⟩) (by assumption) ?_
                  refine wpAnyH_take (i := 20) (v := undef) rfl (by kernel_rfl) (by kernel_rfl) (by kernel_rfl) (fun _ _ _ h => h) (Or.inr ⟨by kernel_rfl, rfl⟩) (by assumption) ?_
                  refine wpAnyH_take (i := 21) (v := undef) rfl (by kernel_rfl) (by kernel_rfl) (by kernel_rfl) (fun _ _ _ h => h) (Or.inr ⟨by kernel_rfl, rfl⟩) (by assumption) ?_
                  refine wpAnyH_take (i := 22) (v := undef) rfl (by kernel_rfl) (by kernel_rfl) (by kernel_rfl) (fun _ _ _ h => h) (Or.inr ⟨by kernel_rfl, rfl⟩) (by assumption) ?_
                  refine wpAnyH_take (i := 23) (v := undef) rfl (by kernel_rfl) (by kernel_rfl) (by kernel_rfl) (fun _ _ _ h => h) (Or.inr ⟨by kernel_rfl, rfl⟩) (by assumption) ?_
                  refine wpAnyH_take (i := 24) (v := undef) rfl (by kernel_rfl) (by kernel_rfl) (by kernel_rfl) (fun _ _ _ h => h) (Or.inr ⟨by kernel_rfl, rfl⟩) (by assumption) ?_
                  refine wpAnyH_take (i := 25) (v := undef) rfl (by kernel_rfl) (by kernel_rfl) (by kernel_rfl) (fun _ _ _ h => h) (Or.inr ⟨by kernel_rfl, rfl⟩) (by assumption) ?_
                  refine wpAnyH_take (i := 26) (v := undef) rfl (by kernel_rfl) (by kernel_rfl) (by kernel_rfl) (fun _ _ _ h => h) (Or.inr ⟨by kernel_rfl, rfl⟩) (by assumption) ?_
                  refine wpAnyH_take (i := 27) (v := undef) rfl (by kernel_rfl) (by kernel_rfl) (by kernel_rfl) (fun _ _ _ h => h) (Or.inr ⟨by kernel_rfl, rfl⟩) (by assumption) ?_
                  refine wpAnyH_take (i := 28) (v := undef) rfl (by kernel_rfl) (by kernel_rfl) (by kernel_rfl) (fun _ _ _ h => h) (Or.inr ⟨by kernel_rfl, rfl⟩) (by assumption) ?_
                  refine wpAnyH_take (i := 29) (v := undef) rfl (by kernel_rfl) (by kernel_rfl) (by kernel_rfl) (fun _ _ _ h => h) (Or.inr ⟨by kernel_rfl, rfl⟩) (by assumption) ?_
                  refine wpAnyH_take (i := 30) (v := ?_) rfl (by kernel_rfl) (by kernel_rfl) (by kernel_rfl) (fun _ _ _ h => h) (Or.inl ⟨by kernel_rfl, ?_⟩) (by assumption) ?_
                  rotate_left 1
                  · (intro w hSw; (try dsimp only at hSw); go_simp; try (with_reducible rfl))
                  refine wpAnyH_take (i := 31) (v := ?_) rfl (by kernel_rfl) (by kernel_rfl) (by kernel_rfl) (fun _ _ _ h => h) (Or.inl ⟨by kernel_rfl, ?_⟩) (by assumption) ?_
                  rotate_left 1
                  · (intro w hSw; (try dsimp only at hSw); go_simp; try (with_reducible rfl))
                  refine wpAnyH_take (i := 32) (v := ?_) rfl (by kernel_rfl) (by kernel_rfl) (by kernel_rfl) (fun _ _ _ h => h) (Or.inl ⟨by kernel_rfl, ?_⟩) (by assumption) ?_
                  rotate_left 1
                  · (intro w hSw; (try dsimp only at hSw); go_simp; try (with_reducible rfl))
                  refine wpAnyH_done (by kernel_rfl) ?_ _
                  go_simp
                  have HY : Hid (Fr (fun x => x = P) w3 Z2.drew ∧ Z2.drew.heap[P]? = some (.cells #[.int .i64 B0.n, .slice s0.ao B0.orders.length s0.co, .slice s0.al B0.locked.length s0.cl, .slice s0.ac B0.occ.length s0.cc] 29 (0, 0)) ∧ Z2.drew.heap[wo.heap.size]? = some (.cells #[.int .i64 cd, .int .i64 R1.n, .slice s1.ao R1.orders.length s1.co, .slice s1.al R1.locked.length s1.cl, .slice s1.ac R1.occ.length s1.cc] 34 (0, 0)) ∧ Z2.drew.heap[wo.heap.size + 1]? = some (.cells #[.int .i64 E.op, .int .i64 E.of_, .string E.holder, .int .i64 E.kind, .slice sa E.secs.length sc, .string E.text] 37 (0, 0)) ∧ OwnBook Z2.drew 0 (bookV B0 s0) B0 k0 ∧ OwnBook Z2.drew 0 (bookV R1 s1) R1 k1) := ⟨HZ2.out.1.drew', HZ2.out.2.1, HZ2.out.2.2.1, HZ2.out.2.2.2.1, HZ2.out.2.2.2.2.1.below (Below.refl _ _).drew, HZ2.out.2.2.2.2.2.below (Below.refl _ _).drew⟩
                  clear HZ2
                  go_wp2
                  go_roundw
                  case rel => exact ⟨q + 1, by omega, by go_num, HY.out⟩
                  case measure => simp [intOf]; omega
                · skip
                  have tn2 : ((bX R1 q).state == 2) = false := by rw [hnow]; rfl
                  have tn3 : ((bX R1 q).state == 3) = false := by rw [hnow]; rfl
                  have tn4 : ((bX R1 q).state == 4) = false := by rw [hnow]; rfl
                  have tn5 : ((bX R1 q).state == 5) = true := by rw [hnow]; rfl
                  have ts1 : ((bX B0 q).state == 1) = false := by rw [f2]; rfl
                  have ts2 : ((bX B0 q).state == 2) = true := by rw [f2]; rfl
                  have to5 : (E.op == 5) = false := by rw [f4]; rfl
                  have to3 : (E.op == 3) = true := by rw [f4]; rfl
                  have tk : (E.of_ == (q : Int)) = true := by rw [f3]; simp
                  have FT : Hid (¬ OrdT B0 q (bl E.text)) := f5
                  clear f5
                  clear hnow f2 f3 f4
                  go_upto_region 28 with (fail)
                  refine wp_region_held_drew (S := (fun w' => w'.cell? ⟨wr.heap.size, 0, none⟩ = some (.string (bX B0 q).holder) ∧ w'.cell? ⟨wr.heap.size, 3, none⟩ = some (.int .i64 (bX B0 q).state) ∧ w'.cell? ⟨wo.heap.size + 1, 0, none⟩ = some (.int .i64 E.op) ∧ w'.cell? ⟨wo.heap.size + 1, 1, none⟩ = some (.int .i64 E.of_) ∧ w'.cell? ⟨wo.heap.size + 1, 2, none⟩ = some (.string E.holder) ∧ w'.cell? ⟨wo.heap.size + 1, 5, none⟩ = some (.string E.text) ∧ w'.cell? ⟨P, 0, none⟩ = some (.int .i64 B0.n) ∧ w'.cell? ⟨P, 1, none⟩ = some (.slice (some ⟨k0.G, 0, none⟩) B0.orders.length s0.co) ∧ w'.cell? ⟨P, 2, none⟩ = some (.slice s0.al B0.locked.length s0.cl) ∧ w'.cell? ⟨P, 3, none⟩ = some (.slice s0.ac B0.occ.length s0.cc))) (by kernel_rfl) (by simp [go_sem, o0, o3, e0, e1, e2, e5, p0, p1, p2, p3]) (fun hS0 => ?_)
                  refine wpAnyH_take (i := 0) (v := ?_) rfl (by kernel_rfl) (by kernel_rfl) (by kernel_rfl) (fun _ _ _ h => h) (Or.inl ⟨by kernel_rfl, ?_⟩) (by assumption) ?_
                  rotate_left 1
                  · (intro w hSw; (try dsimp only at hSw); go_simp; try (with_reducible rfl))
                  refine wpAnyH_take (i := 1) (v := ?_) rfl (by kernel_rfl) (by kernel_rfl) (by kernel_rfl) (fun _ _ _ h => h) (Or.inl ⟨by kernel_rfl, ?_⟩) (by assumption) ?_
                  rotate_left 1
                  · (intro w hSw; (try dsimp only at hSw); go_simp; try (with_reducible rfl))
                  refine wpAnyH_take (i := 2) (v := ?_) rfl (by kernel_rfl) (by kernel_rfl) (by kernel_rfl) (fun _ _ _ h => h) (Or.inl ⟨by kernel_rfl, ?_⟩) (by assumption) ?_
                  rotate_left 1
                  · (intro w hSw; (try dsimp only at hSw); go_simp; try (with_reducible rfl))
                  refine wpAnyH_take (i := 3) (v := ?_) rfl (by kernel_rfl) (by kernel_rfl) (by kernel_rfl) (fun _ _ _ h => h) (Or.inl ⟨by kernel_rfl, ?_⟩) (by assumption) ?_
                  rotate_left 1
                  · (intro w hSw; (try dsimp only at hSw); go_simp; try (with_reducible rfl))
                  refine wpAnyH_take (i := 4) (v := ?_) rfl (by kernel_rfl) (by kernel_rfl) (by kernel_rfl) (fun _ _ _ h => h) (Or.inl ⟨by kernel_rfl, ?_⟩) (by assumption) ?_
                  rotate_left 1
                  · (intro w hSw; (try dsimp only at hSw); go_simp; try (with_reducible rfl))
                  refine wpAnyH_take (i := 5) (v := ?_) rfl (by kernel_rfl) (by kernel_rfl) (by kernel_rfl) (fun _ _ _ h => h) (Or.inl ⟨by kernel_rfl, ?_⟩) (by assumption) ?_
                  rotate_left 1
                  · (intro w hSw; (try dsimp only at hSw); go_simp; try (with_reducible rfl))
                  refine wpAnyH_take (i := 6) (v := ?_) rfl (by kernel_rfl) (by kernel_rfl) (by kernel_rfl) (fun _ _ _ h => h) (Or.inl ⟨by kernel_rfl, ?_⟩) (by assumption) ?_
                  rotate_left 1
                  · (intro w hSw; (try dsimp only at hSw); go_simp; try (with_reducible rfl))
                  refine wpAnyH_take (i := 7) (v := ?_) rfl (by kernel_rfl) (by kernel_rfl) (by kernel_rfl) (fun _ _ _ h => h) (Or.inl ⟨by kernel_rfl, ?_⟩) (by assumption) ?_
                  rotate_left 1
                  · (intro w hSw; (try dsimp only at hSw); go_simp; try (with_reducible rfl))
                  refine wpAnyH_take (i := 8) (v := ?_) rfl (by kernel_rfl) (by kernel_rfl) (by kernel_rfl) (fun _ _ _ h => h) (Or.inl ⟨by kernel_rfl, ?_⟩) (by assumption) ?_
                  rotate_left 1
                  · (intro w hSw; (try dsimp only at hSw); go_simp; try (with_reducible rfl))
                  refine wpAnyH_take (i := 9) (v := ?_) rfl (by kernel_rfl) (by kernel_rfl) (by kernel_rfl) (fun _ _ _ h => h) (Or.inl ⟨by kernel_rfl, ?_⟩) (by assumption) ?_
                  rotate_left 1
                  · (intro w hSw; (try dsimp only at hSw); go_simp; try (with_reducible rfl))
                  refine wpAnyH_take (i := 10) (v := ?_) rfl (by kernel_rfl) (by kernel_rfl) (by kernel_rfl) (fun _ _ _ h => h) (Or.inl ⟨by kernel_rfl, ?_⟩) (by assumption) ?_
                  rotate_left 1
                  · (intro w hSw; (try dsimp only at hSw); go_simp; try (with_reducible rfl))
                  refine wpAnyH_take (i := 11) (v := ?_) rfl (by kernel_rfl) (by kernel_rfl) (by kernel_rfl) (fun _ _ _ h => h) (Or.inl ⟨by kernel_rfl, ?_⟩) (by assumption) ?_
                  rotate_left 1
                  · (intro w hSw; (try dsimp only at hSw); go_simp; try (with_reducible rfl))
                  refine wpAnyH_take (i := 12) (v := ?_) rfl (by kernel_rfl) (by kernel_rfl) (by kernel_rfl) (fun _ _ _ h => h) (Or.inl ⟨by kernel_rfl, ?_⟩) (by assumption) ?_
                  rotate_left 1
                  · (intro w hSw; (try dsimp only at hSw); go_simp; try (with_reducible rfl))
                  refine wpAnyH_take (i := 13) (v := ?_) rfl (by kernel_rfl) (by kernel_rfl) (by kernel_rfl) (fun _ _ _ h => h) (Or.inl ⟨by kernel_rfl, ?_⟩) (by assumption) ?_
                  rotate_left 1
                  · (intro w hSw; (try dsimp only at hSw); go_simp; try (with_reducible rfl))
                  refine wpAnyH_take (i := 14) (v := ?_) rfl (by kernel_rfl) (by kernel_rfl) (by kernel_rfl) (fun _ _ _ h => h) (Or.inl ⟨by kernel_rfl, ?_⟩) (by assumption) ?_
                  rotate_left 1
                  · (intro w hSw; (try dsimp only at hSw); go_simp; try (with_reducible rfl))
                  refine wpAnyH_take (i := 15) (v := ?_) rfl (by kernel_rfl) (by kernel_rfl) (by kernel_rfl) (fun _ _ _ h => h) (Or.inl ⟨by kernel_rfl, ?_⟩) (by assumption) ?_
                  rotate_left 1
                  · (intro w hSw; (try dsimp only at hSw); go_simp; try (with_reducible rfl))
                  refine wpAnyH_take (i := 16) (v := ?_) rfl (by kernel_rfl) (by kernel_rfl) (by kernel_rfl) (fun _ _ _ h => h) (Or.inl ⟨by kernel_rfl, ?_⟩) (by assumption) ?_
                  rotate_left 1
                  · (intro w hSw; (try dsimp only at hSw); go_simp; try (with_reducible rfl))
                  refine wpAnyH_take (i := 17) (v := ?_) rfl (by kernel_rfl) (by kernel_rfl) (by kernel_rfl) (fun _ _ _ h => h) (Or.inl ⟨by kernel_rfl, ?_⟩) (by assumption) ?_
                  rotate_left 1
                  · (intro w hSw; (try dsimp only at hSw); go_simp; try (with_reducible rfl))
                  refine wpAnyH_take (i := 18) (v := ?_) rfl (by kernel_rfl) (by kernel_rfl) (by kernel_rfl) (fun _ _ _ h => h) (Or.inl ⟨by kernel_rfl, ?_⟩) (by assumption) ?_
                  rotate_left 1
                  · (intro w hSw; (try dsimp only at hSw); go_simp; try (with_reducible rfl))
                  refine wpAnyH_take (i := 19) (v := ?_) rfl (by kernel_rfl) (by kernel_rfl) (by kernel_rfl) (fun _ _ _ h => h) (Or.inl ⟨by kernel_rfl, ?_⟩) (by assumption) ?_
                  rotate_left 1
                  · (intro w hSw; (try dsimp only at hSw); go_simp; try (with_reducible rfl))
                  refine wpAnyH_take (i := 20) (v := ?_) rfl (by kernel_rfl) (by kernel_rfl) (by kernel_rfl) (fun _ _ _ h => h) (Or.inl ⟨by kernel_rfl, ?_⟩) (by assumption) ?_
                  rotate_left 1
                  · (intro w hSw; (try dsimp only at hSw); go_simp; try (with_reducible rfl))
                  refine wpAnyH_take (i := 21) (v := ?_) rfl (by kernel_rfl) (by kernel_rfl) (by kernel_rfl) (fun _ _ _ h => h) (Or.inl ⟨by kernel_rfl, ?_⟩) (by assumption) ?_
                  rotate_left 1
                  · (intro w hSw; (try dsimp only at hSw); go_simp; try (with_reducible rfl))
                  refine wpAnyH_take (i := 22) (v := ?_) rfl (by kernel_rfl) (by kernel_rfl) (by kernel_rfl) (fun _ _ _ h => h) (Or.inl ⟨by kernel_rfl, ?_⟩) (by assumption) ?_
                  rotate_left 1
                  · (intro w hSw; (try dsimp only at hSw); go_simp; try (with_reducible rfl))
                  refine wpAnyH_take (i := 23) (v := ?_) rfl (by kernel_rfl) (by kernel_rfl) (by kernel_rfl) (fun _ _ _ h => h) (Or.inl ⟨by kernel_rfl, ?_⟩) (by assumption) ?_
                  rotate_left 1
                  · (intro w hSw; (try dsimp only at hSw); go_simp; try (with_reducible rfl))
                  refine wpAnyH_take (i := 24) (v := ?_) rfl (by kernel_rfl) (by kernel_rfl) (by kernel_rfl) (fun _ _ _ h => h) (Or.inl ⟨by kernel_rfl, ?_⟩) (by assumption) ?_
                  rotate_left 1
                  · (intro w hSw; (try dsimp only at hSw); go_simp; try (with_reducible rfl))
                  refine wpAnyH_take (i := 25) (v := ?_) rfl (by kernel_rfl) (by kernel_rfl) (by kernel_rfl) (fun _ _ _ h => h) (Or.inl ⟨by kernel_rfl, ?_⟩) (by assumption) ?_
                  rotate_left 1
                  · (intro w hSw; (try dsimp only at hSw); go_simp; try (with_reducible rfl))
                  refine wpAnyH_take (i := 26) (v := ?_) rfl (by kernel_rfl) (by kernel_rfl) (by kernel_rfl) (fun _ _ _ h => h) (Or.inl ⟨by kernel_rfl, ?_⟩) (by assumption) ?_
                  rotate_left 1
                  · (intro w hSw; (try dsimp only at hSw); go_simp; try (with_reducible rfl))
                  refine wpAnyH_ready (rs := [27]) (by kernel_rfl) (by simp) ?_
                  refine AllReadyH.cons rfl (fun Kx hK => ?_) (AllReadyH.nil)
                  go_simp
                  refine (specOrderText_any _ B0 (q : Int) _ HF.out.2.2.1.1 HF.out.2.2.1.2 hnb (HBK.out.below (Below.refl _ _).drew)).mono ?_
                  rintro e w9 ⟨⟨y9, rfl, hy9⟩, hb9⟩
                  have hne := text_other HF.out.1 hqlt hy9 FT.out
                  have ty := strEq_f hne
                  have HY : Hid (Fr (fun x => x = P) w3 w9 ∧ w9.heap[P]? = some (.cells #[.int .i64 B0.n, .slice s0.ao B0.orders.length s0.co, .slice s0.al B0.locked.length s0.cl, .slice s0.ac B0.occ.length s0.cc] 29 (0, 0)) ∧ w9.heap[wo.heap.size]? = some (.cells #[.int .i64 cd, .int .i64 R1.n, .slice s1.ao R1.orders.length s1.co, .slice s1.al R1.locked.length s1.cl, .slice s1.ac R1.occ.length s1.cc] 34 (0, 0)) ∧ w9.heap[wo.heap.size + 1]? = some (.cells #[.int .i64 E.op, .int .i64 E.of_, .string E.holder, .int .i64 E.kind, .slice sa E.secs.length sc, .string E.text] 37 (0, 0)) ∧ OwnBook w9 0 (bookV B0 s0) B0 k0 ∧ OwnBook w9 0 (bookV R1 s1) R1 k1) := ⟨HZ2.out.1.drew'.trans (Fr.of_below hb9), (hb9.block _ zP).trans HZ2.out.2.1, (hb9.block _ zd).trans HZ2.out.2.2.1, (hb9.block _ ze).trans HZ2.out.2.2.2.1, (HZ2.out.2.2.2.2.1.below (Below.refl _ _).drew).below hb9, (HZ2.out.2.2.2.2.2.below (Below.refl _ _).drew).below hb9⟩
                  have xo9 := (hb9.block _ zo).trans HOB.out
                  clear hy9 hb9 HZ2 HOB p0 p1 p2 p3 d0 d1 d2 d3 d4 e0 e1 e2 e3 e4 e5 zP zd ze fP0 fP1 fP2 fP3 o0 o1 o2 o3 zo
                  obtain ⟨p0, p1, p2, p3⟩ := box_cells HY.out.2.1
                  obtain ⟨d0, d1, d2, d3, d4⟩ := dcells HY.out.2.2.1
                  obtain ⟨e0, e1, e2, e3, e4, e5⟩ := ev_cells HY.out.2.2.2.1
                  have zP : P < w9.heap.size := (Array.getElem?_eq_some_iff.1 HY.out.2.1).1
                  have zd : wo.heap.size < w9.heap.size := (Array.getElem?_eq_some_iff.1 HY.out.2.2.1).1
                  have ze : wo.heap.size + 1 < w9.heap.size := (Array.getElem?_eq_some_iff.1 HY.out.2.2.2.1).1
                  have fP0 : w9.frozen? ⟨P, 0, none⟩ = false := frozen_of_box HY.out.2.1
                  have fP1 : w9.frozen? ⟨P, 1, none⟩ = false := frozen_of_box HY.out.2.1
                  have fP2 : w9.frozen? ⟨P, 2, none⟩ = false := frozen_of_box HY.out.2.1
                  have fP3 : w9.frozen? ⟨P, 3, none⟩ = false := frozen_of_box HY.out.2.1
                  rw [HA0.out] at p1
                  obtain ⟨o0, o1, o2, o3⟩ := box_cells xo9
                  clear xo9
                  refine hK.out _ _ ⟨o0, o3, e0, e1, e2, e5, p0, p1, p2, p3⟩ (fun hS1 => ?_)
                  clear hK Kx hS0
                  refine wpAnyH_take (i := 28) (v := ?_) rfl (by kernel_rfl) (by kernel_rfl) (by kernel_rfl) (fun _ _ _ h => h) (Or.inl ⟨by kernel_rfl, ?_⟩) (by assumption) ?_
                  rotate_left 1
                  · (intro w hSw; (try dsimp only at hSw); go_simp; try (with_reducible rfl))
                  refine wpAnyH_take (i := 29) (v := ?_) rfl (by kernel_rfl) (by kernel_rfl) (by kernel_rfl) (fun _ _ _ h => h) (Or.inl ⟨by kernel_rfl, ?_⟩) (by assumption) ?_
                  rotate_left 1
                  · (intro w hSw; (try dsimp only at hSw); go_simp; try (with_reducible rfl))
                  refine wpAnyH_take (i := 30) (v := ?_) rfl (by kernel_rfl) (by kernel_rfl) (by kernel_rfl) (fun _ _ _ h => h) (Or.inl ⟨by kernel_rfl, ?_⟩) (by assumption) ?_
                  rotate_left 1
                  · (intro w hSw; (try dsimp only at hSw); go_simp; try (with_reducible rfl))
                  refine wpAnyH_take (i := 31) (v := ?_) rfl (by kernel_rfl) (by kernel_rfl) (by kernel_rfl) (fun _ _ _ h => h) (Or.inl ⟨by kernel_rfl, ?_⟩) (by assumption) ?_
                  rotate_left 1
                  · (intro w hSw; (try dsimp only at hSw); go_simp; try (with_reducible rfl))
                  refine wpAnyH_take (i := 32) (v := ?_) rfl (by kernel_rfl) (by kernel_rfl) (by kernel_rfl) (fun _ _ _ h => h) (Or.inl ⟨by kernel_rfl, ?_⟩) (by assumption) ?_
                  rotate_left 1
                  · (intro w hSw; (try dsimp only at hSw); go_simp; try (with_reducible rfl))
                  refine wpAnyH_done (by kernel_rfl) ?_ _
                  go_simp
                  go_wp2
                  go_roundw
                  case rel => exact ⟨q + 1, by omega, by go_num, HY.out⟩
                  case measure => simp [intOf]; omega
          · skip
            obtain rfl : q = B0.orders.length := by omega
            obtain ⟨p0, p1, p2, p3⟩ := box_cells HZ.out.2.1
            obtain ⟨d0, d1, d2, d3, d4⟩ := dcells HZ.out.2.2.1
            obtain ⟨e0, e1, e2, e3, e4, e5⟩ := ev_cells HZ.out.2.2.2.1
            have zP : P < wr.heap.size := (Array.getElem?_eq_some_iff.1 HZ.out.2.1).1
            have zd : wo.heap.size < wr.heap.size := (Array.getElem?_eq_some_iff.1 HZ.out.2.2.1).1
            have ze : wo.heap.size + 1 < wr.heap.size := (Array.getElem?_eq_some_iff.1 HZ.out.2.2.2.1).1
            have fP0 : wr.frozen? ⟨P, 0, none⟩ = false := frozen_of_box HZ.out.2.1
            have fP1 : wr.frozen? ⟨P, 1, none⟩ = false := frozen_of_box HZ.out.2.1
            have fP2 : wr.frozen? ⟨P, 2, none⟩ = false := frozen_of_box HZ.out.2.1
            have fP3 : wr.frozen? ⟨P, 3, none⟩ = false := frozen_of_box HZ.out.2.1
            go_wp2
            go_roundw
            case rel => exact ⟨k + 1, by omega, by go_num, (HZ.out.1).trans (putBook_fr wr P R1 s1), HNX.out _ (putBook_box HZ.out.2.1)⟩
            case measure => simp [intOf]; omega
    · obtain rfl : k = M := by omega
      have HO : Hid (Fr (fun x => x = P) w3 wr) := hf
      clear hf hbx
      go_wp2
      go_ret
      exact ⟨rfl, HR.out.1.out HO.out⟩

end Go.Proofs.YtfbpkoboccickaaDoor
