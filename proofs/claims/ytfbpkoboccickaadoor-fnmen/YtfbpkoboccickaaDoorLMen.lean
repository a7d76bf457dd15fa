/-
  The law FnMen: the walk. Mine, by program (wip/lmen.py), by template (wip/gen.py).
-/
import Derived.Test.YtfbpkoboccickaaDoorRanZ
import Derived.Test.YtfbpkoboccickaaDoorEvZ
namespace Go.Proofs.YtfbpkoboccickaaDoor
open Go.RowKit

/-- An order that was given: nobody is where its men go. -/
theorem men_facts {B0 R1 : Bk} {E : Ev} {cd m : Int} (hf : Right B0 ∧ Right R1 ∧ (B0.orders.length ≤ 1048576 ∧ ∀ i, i < B0.orders.length → (bX B0 i).secs.length ≤ 1048576 ∧ (bX B0 i).holder.size ≤ 1048576) ∧ B0.n = m ∧ cd = (doP B0 E).1 ∧ (R1 = if (doP B0 E).1 = 1 then B0 else (doP B0 E).2)) (o : E.op = 2) (hc : cd = 0) :
    ∃ j : Nat, E.of_ = (j : Int) ∧ j < R1.orders.length ∧ (bX R1 j).secs.length ≤ 20 ∧ 0 < (bX R1 j).secs.length ∧ ∀ q, q < (bX R1 j).secs.length → ∃ s : Nat, (bX R1 j).secs.getD q 0 = (s : Int) ∧ (s : Int) < m ∧ s < B0.occ.length ∧ s < B0.locked.length ∧ ((bX R1 j).kind = 2 → B0.occ.getD s false = false) ∧ B0.locked.getD s false = false ∧ ∀ i, i < B0.orders.length → ¬ Has (bX B0 i) (s : Int) := by
  obtain ⟨h1, h2, -, h4, h5, h6⟩ := hf
  have n1 : ¬ (doP B0 E).1 = 1 := by rw [← h5, hc]; decide
  have ok := ok_of_code n1
  rw [if_neg n1] at h6
  obtain ⟨g1, g2, g3⟩ := men_give ok o (by rw [← h5]; exact hc)
  have q := (ok.at25 (Or.inl o)).1
  unfold In at q
  rw [g1] at h6
  have eb : bX R1 E.of_.toNat = setSt (bX B0 E.of_.toNat) 2 := by rw [h6, bX_set _ _ _ g2, if_pos rfl]
  have sz := h1.1
  have es : (bX R1 E.of_.toNat).secs = (bX B0 E.of_.toNat).secs := by rw [eb]; rfl
  have ek : (bX R1 E.of_.toNat).kind = (bX B0 E.of_.toNat).kind := by rw [eb]; rfl
  have lo := (h1.2.1 E.of_.toNat g2).2.2.1
  refine ⟨E.of_.toNat, by omega, by rw [h6, set_len]; exact g2, by rw [es]; exact lo.2.2, by rw [es]; have := lo.2.1; omega, fun q hq => ?_⟩
  rw [es] at hq
  have l2 := lo.1 q hq
  obtain ⟨f1, f2, f3⟩ := g3 q hq
  have e0 : (bX R1 E.of_.toNat).secs.getD q 0 = sV (bX B0 E.of_.toNat) q := by rw [es]; rfl
  refine ⟨(sV (bX B0 E.of_.toNat) q).toNat, ?_, ?_, ?_, ?_, fun hk => ?_, f2, ?_⟩
  · rw [e0]; omega
  · omega
  · have := sz.2.2.1; omega
  · have := sz.2.1; omega
  · rw [ek] at hk
    cases ee : B0.occ.getD (sV (bX B0 E.of_.toNat) q).toNat false with
    | false => rfl
    | true => exact absurd ⟨hk, ee⟩ f1
  · rw [show (((sV (bX B0 E.of_.toNat) q).toNat : Nat) : Int) = sV (bX B0 E.of_.toNat) q by omega]
    exact f3

/-- What a lock is answered. -/
theorem lock_facts {B0 R1 : Bk} {E : Ev} {cd m : Int} (hf : Right B0 ∧ Right R1 ∧ (B0.orders.length ≤ 1048576 ∧ ∀ i, i < B0.orders.length → (bX B0 i).secs.length ≤ 1048576 ∧ (bX B0 i).holder.size ≤ 1048576) ∧ B0.n = m ∧ cd = (doP B0 E).1 ∧ (R1 = if (doP B0 E).1 = 1 then B0 else (doP B0 E).2)) (o : E.op = 6) (hc : ¬ cd = 1) {r : Int} (hw : WhoIs B0 E.of_ r) : (cd = 0 ∧ r < 0) ∨ (¬ cd = 0 ∧ ¬ r < 0) := by
  obtain ⟨h1, h2, -, h4, h5, h6⟩ := hf
  have ok := ok_of_code (B := B0) (E := E) (by rw [← h5]; exact hc)
  have ml := men_lock ok o
  rw [← h5] at ml
  rcases hw with ⟨a, _⟩ | ⟨_, i, hi, rfl, hh⟩ | ⟨_, rfl, hh⟩
  · exact absurd h1 a
  · exact Or.inr ⟨fun e => (ml.1 e) i hi hh, by omega⟩
  · exact Or.inl ⟨ml.2 hh, by decide⟩

set_option maxRecDepth 20000 in
set_option maxHeartbeats 16000000 in
theorem fnMen_walk (A : Nat → Addr) (ad : Option Addr) (c n : Nat) (V : Nat → UInt8) (w : World) (hE : Errs w A) (hT : Lib.TabIs Tryd.prog w "internal/strconv.uint64pow10" .u64 Lib.pow10Tab) (G : BytesAt w ad n V) :
    Calls Tryd.prog 4 #[.slice ad n c] w fun e w' => e = .returned (.bool true) ∧ Below w.heap.size w w' := by
  have HG : Hid (BytesAt w ad n V ∧ Errs w A ∧ Lib.TabIs Tryd.prog w "internal/strconv.uint64pow10" .u64 Lib.pow10Tab) := ⟨G, hE, hT⟩
  clear G hE hT
  go_enter Tryd.func4, Tryd.ntmps4
  by_cases hbig : 1048576 < n
  · have t : (1048576 : Int) < (n : Int) := by omega
    go_wp2
    go_ret
    exact ⟨rfl, Below.refl _ _⟩
  have hn : n ≤ 1048576 := by omega
  have tb : ¬ (1048576 : Int) < (n : Int) := by omega
  clear hbig
  go_wp2_with fail
  refine (drawn_any ad n c V w hn HG.out.1).mono ?_
  rintro e w1 ⟨m, adX, N, cX, X, rfl, hm1, hm9, hN, hX, hsm, hb1⟩
  have H1 : Hid (EventsAt w1 adX N X ∧ (∀ i, i < N → SmallO (X i)) ∧ Below w.heap.size w w1) := ⟨hX, hsm, hb1⟩
  clear hX hsm hb1
  go_wp2_with fail
  refine (implBegin_any m w1).mono ?_
  rintro e w2 ⟨v, rfl, ⟨K0, hB0⟩, hb2⟩
  obtain ⟨ao, co, al, cl, ac, cc, hv, -⟩ := hB0.shape
  subst hv
  have H2 : Hid (OwnBook w2 w1.heap.size (bookV (beginBk m) ⟨ao, co, al, cl, ac, cc⟩) (beginBk m) K0 ∧ Below w1.heap.size w1 w2) := ⟨hB0, hb2⟩
  clear hB0 hb2
  go_wp2_with fail
  have B3 := below1 w2 (.cells #[.int .i64 (beginBk m).n, .slice ao (beginBk m).orders.length co, .slice al (beginBk m).locked.length cl, .slice ac (beginBk m).occ.length cc] 29)
  have b1 : Below w1.heap.size w1 (w2.alloc (.cells #[.int .i64 (beginBk m).n, .slice ao (beginBk m).orders.length co, .slice al (beginBk m).locked.length cl, .slice ac (beginBk m).occ.length cc] 29)) := H2.out.2.alloc H2.out.2.size _
  have b0 := below_trans H1.out.2.2 H1.out.2.2.size b1
  refine (implRun_any A m adX cX N X _ (HG.out.2.1.below b0) (tab_below HG.out.2.2 b0) (by omega) (fun i hi => ⟨Nat.le_trans (H1.out.2.1 i hi).1 (by decide), Nat.le_trans (H1.out.2.1 i hi).2.1 (by decide), Nat.le_trans (H1.out.2.1 i hi).2.2 (by decide)⟩) (H1.out.1.below b1)).mono ?_
  rintro e w3 ⟨M, adD, cD, GD, sl, KD, hM, rfl, haD, hD, hb3⟩
  obtain rfl : M = N := by
    rcases hM with h | h
    · exact h.2
    · exact absurd ⟨⟨hm1, by omega⟩, by omega⟩ h.1
  have s2 : (w2.alloc (.cells #[.int .i64 (beginBk m).n, .slice ao (beginBk m).orders.length co, .slice al (beginBk m).locked.length cl, .slice ac (beginBk m).occ.length cc] 29)).heap.size = w2.heap.size + 1 := alloc_size _ _
  have RN : Ran w w1 w3 w2.heap.size adX M X m GD ⟨ao, co, al, cl, ac, cc⟩ K0 sl KD := by
    rw [s2] at hD
    exact ⟨⟨hm1, hm9⟩, hN, H1.out.2.1, H1.out.1, H2.out.2.size, below_trans b1 b1.size hb3, hD, ((H2.out.1.below B3).below hb3).mono (Nat.zero_le _), fun x hx => H2.out.1.blocks_lt hx, (hb3.block _ (by omega)).trans (Deep.blk_alloc_new _ _), below_trans b0 b0.size hb3, Nat.le_trans H1.out.2.2.size H2.out.2.size⟩
  have HR : Hid (Ran w w1 w3 w2.heap.size adX M X m GD ⟨ao, co, al, cl, ac, cc⟩ K0 sl KD ∧ (0 < M → adD = some ⟨GD, 0, none⟩)) := ⟨RN, haD⟩
  clear RN haD hD hb3 hM B3 b0 b1 H1 H2 HG s2
  obtain ⟨P, hP⟩ : ∃ P, P = w2.heap.size := ⟨_, rfl⟩
  rw [← hP] at HR
  go_wp2
  rw [← hP]
  clear hP
  go_loopw [33] (fun i wr => ∃ k : Nat, k ≤ M ∧ i = .int .i64 k ∧ Fr (fun x => x = P) w3 wr ∧ wr.heap[P]? = some (.cells #[.int .i64 (rB (beginBk m) X k).n, .slice (sAt ⟨ao, co, al, cl, ac, cc⟩ sl k).ao (rB (beginBk m) X k).orders.length (sAt ⟨ao, co, al, cl, ac, cc⟩ sl k).co, .slice (sAt ⟨ao, co, al, cl, ac, cc⟩ sl k).al (rB (beginBk m) X k).locked.length (sAt ⟨ao, co, al, cl, ac, cc⟩ sl k).cl, .slice (sAt ⟨ao, co, al, cl, ac, cc⟩ sl k).ac (rB (beginBk m) X k).occ.length (sAt ⟨ao, co, al, cl, ac, cc⟩ sl k).cc] 29 (0, 0))) (fun i _ => M - (intOf i).toNat)
  case atStart => exact ⟨0, Nat.zero_le _, rfl, Fr.refl _ _, HR.out.1.bx⟩
  case round =>
    obtain ⟨k, hk, rfl, hf, hbx⟩ := hrel
    by_cases hlt : k < M
    · skip
      obtain ⟨wo, hwo⟩ : ∃ wo, wo = wr := ⟨_, rfl⟩
      rw [← hwo] at hf hbx ⊢
      clear hwo
      obtain ⟨b, oo, h2, g⟩ := HR.out.1.event hf
      obtain rfl := h2 (by omega)
      obtain rfl := HR.out.2 (by omega)
      obtain ⟨sa, sc, q⟩ := g k hlt
      have dc := HR.out.1.done hf hlt
      have ob0 := HR.out.1.book hf (k := k) (by omega)
      have ob1 := HR.out.1.book hf (k := k + 1) (by omega)
      have hR0 := HR.out.1.right k
      have hR1 := HR.out.1.right (k + 1)
      have hS0 := HR.out.1.small k
      have hn0 := HR.out.1.num k
      have hst := fun j => @run_state (beginBk m) X k j
      have hln := run_len (beginBk m) X k
      have hcd : rC (beginBk m) X k = (doP (rB (beginBk m) X k) (X k)).1 := rfl
      have hrb : rB (beginBk m) X (k + 1) = if (doP (rB (beginBk m) X k) (X k)).1 = 1 then rB (beginBk m) X k else (doP (rB (beginBk m) X k) (X k)).2 := rfl
      obtain ⟨E, hE⟩ : ∃ E, E = X k := ⟨_, rfl⟩
      obtain ⟨B0, hB0⟩ : ∃ B0, B0 = rB (beginBk m) X k := ⟨_, rfl⟩
      obtain ⟨R1, hR1'⟩ : ∃ R1, R1 = rB (beginBk m) X (k + 1) := ⟨_, rfl⟩
      obtain ⟨cd, hcd'⟩ : ∃ cd, cd = rC (beginBk m) X k := ⟨_, rfl⟩
      obtain ⟨s0, hs0⟩ : ∃ s0, s0 = sAt ⟨ao, co, al, cl, ac, cc⟩ sl k := ⟨_, rfl⟩
      obtain ⟨s1, hs1⟩ : ∃ s1, s1 = sl k := ⟨_, rfl⟩
      obtain ⟨k0, hk0⟩ : ∃ k0, k0 = bAt K0 KD k := ⟨_, rfl⟩
      obtain ⟨k1, hk1⟩ : ∃ k1, k1 = bAt K0 KD (k + 1) := ⟨_, rfl⟩
      have es1 : sAt ⟨ao, co, al, cl, ac, cc⟩ sl (k + 1) = sl k := rfl
      rw [es1, ← hs1, ← hk1, ← hR1'] at ob1
      rw [← hs0, ← hk0, ← hB0] at ob0
      rw [← hs0, ← hB0] at hbx
      rw [← hR1'] at hR1
      rw [← hB0] at hR0 hS0 hn0 hcd hrb hln
      rw [← hE] at hcd hrb q
      rw [← hR1'] at hrb hln
      rw [← hcd'] at hcd
      rw [← hcd', ← hR1', ← hs1] at dc
      rw [← hE, ← hB0, ← hR1'] at hst
      obtain ⟨x0, x1, x2, x3, x4, x5, x6⟩ := q
      obtain ⟨y0, y1, y2, y3, y4, y5⟩ := dc
      obtain ⟨p0, p1, p2, p3⟩ := box_cells hbx
      have zP : P < wo.heap.size := (Array.getElem?_eq_some_iff.1 hbx).1
      have lb : b < wo.heap.size := World.block_lt_of_cell? _ _ x0
      have lG : GD < wo.heap.size := World.block_lt_of_cell? _ _ y0
      have HO : Hid (Fr (fun x => x = P) w3 wo ∧ wo.heap[P]? = some (.cells #[.int .i64 B0.n, .slice s0.ao B0.orders.length s0.co, .slice s0.al B0.locked.length s0.cl, .slice s0.ac B0.occ.length s0.cc] 29 (0, 0)) ∧ OwnBook wo 0 (bookV B0 s0) B0 k0 ∧ OwnBook wo 0 (bookV R1 s1) R1 k1) := ⟨hf, hbx, ob0, ob1⟩
      have HF : Hid (Right B0 ∧ Right R1 ∧ (B0.orders.length ≤ 1048576 ∧ ∀ i, i < B0.orders.length → (bX B0 i).secs.length ≤ 1048576 ∧ (bX B0 i).holder.size ≤ 1048576) ∧ B0.n = m ∧ cd = (doP B0 E).1 ∧ (R1 = if (doP B0 E).1 = 1 then B0 else (doP B0 E).2)) := ⟨hR0, hR1, hS0, hn0, hcd, hrb⟩
      have HST : Hid (∀ j, j < B0.orders.length → (bX R1 j).state = (bX B0 j).state ∨ Fits B0 E j (bX R1 j).state) := fun j hj => hst j hj
      have HNX : Hid (∀ W : World, W.heap[P]? = some (.cells #[.int .i64 R1.n, .slice s1.ao R1.orders.length s1.co, .slice s1.al R1.locked.length s1.cl, .slice s1.ac R1.occ.length s1.cc] 29 (0, 0)) → W.heap[P]? = some (.cells #[.int .i64 (rB (beginBk m) X (k + 1)).n, .slice (sAt ⟨ao, co, al, cl, ac, cc⟩ sl (k + 1)).ao (rB (beginBk m) X (k + 1)).orders.length (sAt ⟨ao, co, al, cl, ac, cc⟩ sl (k + 1)).co, .slice (sAt ⟨ao, co, al, cl, ac, cc⟩ sl (k + 1)).al (rB (beginBk m) X (k + 1)).locked.length (sAt ⟨ao, co, al, cl, ac, cc⟩ sl (k + 1)).cl, .slice (sAt ⟨ao, co, al, cl, ac, cc⟩ sl (k + 1)).ac (rB (beginBk m) X (k + 1)).occ.length (sAt ⟨ao, co, al, cl, ac, cc⟩ sl (k + 1)).cc] 29 (0, 0))) := fun W h => by rw [hR1', hs1] at h; exact h
      have hmN : 1 ≤ m ∧ m ≤ 9 := HR.out.1.m1
      have hk60 : k < 60 := by have := HR.out.1.n60; omega
      clear hst hR0 hR1 hS0 hn0 hcd hrb ob0 ob1 hf hbx g h2 x6 y5 es1 hE hB0 hR1' hcd' hs0 hs1 hk0 hk1
      by_cases g1 : E.op = 2
      · have t2 : (E.op == 2) = true := by rw [g1]; rfl
        by_cases g2 : cd = 0
        · have tc : (cd == 0) = true := by rw [g2]; rfl
          obtain ⟨j, hj, hjl, hj20, hj1, hq⟩ := men_facts HF.out g1 g2
          have HQ : Hid (∀ q, q < (bX R1 j).secs.length → ∃ s : Nat, (bX R1 j).secs.getD q 0 = (s : Int) ∧ (s : Int) < m ∧ s < B0.occ.length ∧ s < B0.locked.length ∧ ((bX R1 j).kind = 2 → B0.occ.getD s false = false) ∧ B0.locked.getD s false = false ∧ ∀ i, i < B0.orders.length → ¬ Has (bX B0 i) (s : Int)) := hq
          have HJ : Hid (E.of_ = (j : Int)) := hj
          clear hq
          rw [hj] at x1
          clear hj
          obtain ⟨⟨o0, o1, o2, o3, o4⟩, -, -⟩ := ord_facts HO.out.2.2.2 hjl
          have hao : s1.ao = some ⟨k1.G, 0, none⟩ := book_head (show OwnBook wo 0 (.agg #[.int .i64 R1.n, .slice s1.ao R1.orders.length s1.co, .slice s1.al R1.locked.length s1.cl, .slice s1.ac R1.occ.length s1.cc]) R1 k1 from HO.out.2.2.2) (by omega)
          have HA : Hid (s1.ao = some ⟨k1.G, 0, none⟩) := hao
          rw [hao] at y2
          clear hao
          have lk : k1.G < wo.heap.size := World.block_lt_of_cell? _ _ o0
          obtain ⟨bs, os, hs8, hs9⟩ := o4
          have hs8' := hs8 hj1
          rw [hs8'] at o2
          have HS : Hid (Cells wo (some ⟨bs, os, none⟩) (bX R1 j).secs.length (iV (bX R1 j).secs)) := ⟨bs, os, fun _ => rfl, hs9⟩
          clear hs8 hs9 hs8'
          have j1 : (j : Int) < (R1.orders.length : Int) := by omega
          have hR201 : R1.orders.length ≤ 200 := HF.out.2.1.1.2.2.2
          have G1 : Hid (E.op = 2) := g1
          clear g1 g2
          go_wp2
          obtain ⟨W2, hW2, HZ2⟩ : ∃ W2, W2 = (((wo.alloc (.cells #[.int .i64 cd, .int .i64 R1.n, (.slice (some ⟨k1.G, 0, none⟩) R1.orders.length s1.co), .slice s1.al R1.locked.length s1.cl, .slice s1.ac R1.occ.length s1.cc] 34)).alloc (.cells #[.int .i64 E.op, .int .i64 (j : Int), .string E.holder, .int .i64 E.kind, .slice sa E.secs.length sc, .string E.text] 37)).alloc (.cells #[.string (bX R1 j).holder, .int .i64 (bX R1 j).kind, .slice (some ⟨bs, os, none⟩) (bX R1 j).secs.length (k1.sc j), .int .i64 (bX R1 j).state] 39)) ∧ Hid ((Fr (fun x => x = P) w3 W2 ∧ W2.heap[P]? = some (.cells #[.int .i64 B0.n, .slice s0.ao B0.orders.length s0.co, .slice s0.al B0.locked.length s0.cl, .slice s0.ac B0.occ.length s0.cc] 29 (0, 0)) ∧ W2.heap[wo.heap.size]? = some (.cells #[.int .i64 cd, .int .i64 R1.n, .slice s1.ao R1.orders.length s1.co, .slice s1.al R1.locked.length s1.cl, .slice s1.ac R1.occ.length s1.cc] 34 (0, 0)) ∧ W2.heap[wo.heap.size + 1]? = some (.cells #[.int .i64 E.op, .int .i64 E.of_, .string E.holder, .int .i64 E.kind, .slice sa E.secs.length sc, .string E.text] 37 (0, 0)) ∧ OwnBook W2 0 (bookV B0 s0) B0 k0 ∧ OwnBook W2 0 (bookV R1 s1) R1 k1) ∧ W2.heap[wo.heap.size + 2]? = some (.cells #[.string (bX R1 j).holder, .int .i64 (bX R1 j).kind, .slice (some ⟨bs, os, none⟩) (bX R1 j).secs.length (k1.sc j), .int .i64 (bX R1 j).state] 39 (0, 0)) ∧ Cells W2 (some ⟨bs, os, none⟩) (bX R1 j).secs.length (iV (bX R1 j).secs) ∧ wo.heap.size + 2 < W2.heap.size) := by
            refine ⟨_, rfl, ?_⟩
            have b3 := below3 wo (.cells #[.int .i64 cd, .int .i64 R1.n, (.slice (some ⟨k1.G, 0, none⟩) R1.orders.length s1.co), .slice s1.al R1.locked.length s1.cl, .slice s1.ac R1.occ.length s1.cc] 34) (.cells #[.int .i64 E.op, .int .i64 (j : Int), .string E.holder, .int .i64 E.kind, .slice sa E.secs.length sc, .string E.text] 37) (.cells #[.string (bX R1 j).holder, .int .i64 (bX R1 j).kind, .slice (some ⟨bs, os, none⟩) (bX R1 j).secs.length (k1.sc j), .int .i64 (bX R1 j).state] 39)
            have bx := boxes3 wo #[.int .i64 cd, .int .i64 R1.n, (.slice (some ⟨k1.G, 0, none⟩) R1.orders.length s1.co), .slice s1.al R1.locked.length s1.cl, .slice s1.ac R1.occ.length s1.cc] #[.int .i64 E.op, .int .i64 (j : Int), .string E.holder, .int .i64 E.kind, .slice sa E.secs.length sc, .string E.text] #[.string (bX R1 j).holder, .int .i64 (bX R1 j).kind, .slice (some ⟨bs, os, none⟩) (bX R1 j).secs.length (k1.sc j), .int .i64 (bX R1 j).state] 34 37 39
            refine ⟨⟨HO.out.1.trans (Fr.of_below b3), (b3.block _ zP).trans HO.out.2.1, ?_, ?_, HO.out.2.2.1.below b3, HO.out.2.2.2.below b3⟩, bx.2.2.1, HS.out.below b3, bx.2.2.2⟩
            · rw [HA.out]; exact bx.1
            · rw [HJ.out]; exact bx.2.1
          rw [← hW2]
          clear hW2 p0 p1 p2 p3 x0 x1 x2 x3 x4 x5 y0 y1 y2 y3 y4 lb lG zP o0 o1 o2 o3 lk
          have HIN : Hid ((Fr (fun x => x = P) w3 W2 ∧ W2.heap[P]? = some (.cells #[.int .i64 B0.n, .slice s0.ao B0.orders.length s0.co, .slice s0.al B0.locked.length s0.cl, .slice s0.ac B0.occ.length s0.cc] 29 (0, 0)) ∧ W2.heap[wo.heap.size]? = some (.cells #[.int .i64 cd, .int .i64 R1.n, .slice s1.ao R1.orders.length s1.co, .slice s1.al R1.locked.length s1.cl, .slice s1.ac R1.occ.length s1.cc] 34 (0, 0)) ∧ W2.heap[wo.heap.size + 1]? = some (.cells #[.int .i64 E.op, .int .i64 E.of_, .string E.holder, .int .i64 E.kind, .slice sa E.secs.length sc, .string E.text] 37 (0, 0)) ∧ OwnBook W2 0 (bookV B0 s0) B0 k0 ∧ OwnBook W2 0 (bookV R1 s1) R1 k1) ∧ W2.heap[wo.heap.size + 2]? = some (.cells #[.string (bX R1 j).holder, .int .i64 (bX R1 j).kind, .slice (some ⟨bs, os, none⟩) (bX R1 j).secs.length (k1.sc j), .int .i64 (bX R1 j).state] 39 (0, 0)) ∧ Cells W2 (some ⟨bs, os, none⟩) (bX R1 j).secs.length (iV (bX R1 j).secs) ∧ wo.heap.size + 2 < W2.heap.size) := HZ2
          clear HZ2
          go_loopw [60] (fun i wr => ∃ q : Nat, q ≤ (bX R1 j).secs.length ∧ i = .int .i64 q ∧ ((Fr (fun x => x = P) w3 wr ∧ wr.heap[P]? = some (.cells #[.int .i64 B0.n, .slice s0.ao B0.orders.length s0.co, .slice s0.al B0.locked.length s0.cl, .slice s0.ac B0.occ.length s0.cc] 29 (0, 0)) ∧ wr.heap[wo.heap.size]? = some (.cells #[.int .i64 cd, .int .i64 R1.n, .slice s1.ao R1.orders.length s1.co, .slice s1.al R1.locked.length s1.cl, .slice s1.ac R1.occ.length s1.cc] 34 (0, 0)) ∧ wr.heap[wo.heap.size + 1]? = some (.cells #[.int .i64 E.op, .int .i64 E.of_, .string E.holder, .int .i64 E.kind, .slice sa E.secs.length sc, .string E.text] 37 (0, 0)) ∧ OwnBook wr 0 (bookV B0 s0) B0 k0 ∧ OwnBook wr 0 (bookV R1 s1) R1 k1) ∧ wr.heap[wo.heap.size + 2]? = some (.cells #[.string (bX R1 j).holder, .int .i64 (bX R1 j).kind, .slice (some ⟨bs, os, none⟩) (bX R1 j).secs.length (k1.sc j), .int .i64 (bX R1 j).state] 39 (0, 0)) ∧ Cells wr (some ⟨bs, os, none⟩) (bX R1 j).secs.length (iV (bX R1 j).secs) ∧ wo.heap.size + 2 < wr.heap.size)) (fun i _ => (bX R1 j).secs.length - (intOf i).toNat)
          case atStart => exact ⟨0, Nat.zero_le _, rfl, HIN.out⟩
          case round =>
            obtain ⟨q, hq, rfl, hz2⟩ := hrel
            clear HIN
            have HZ : Hid (Fr (fun x => x = P) w3 wr ∧ wr.heap[P]? = some (.cells #[.int .i64 B0.n, .slice s0.ao B0.orders.length s0.co, .slice s0.al B0.locked.length s0.cl, .slice s0.ac B0.occ.length s0.cc] 29 (0, 0)) ∧ wr.heap[wo.heap.size]? = some (.cells #[.int .i64 cd, .int .i64 R1.n, .slice s1.ao R1.orders.length s1.co, .slice s1.al R1.locked.length s1.cl, .slice s1.ac R1.occ.length s1.cc] 34 (0, 0)) ∧ wr.heap[wo.heap.size + 1]? = some (.cells #[.int .i64 E.op, .int .i64 E.of_, .string E.holder, .int .i64 E.kind, .slice sa E.secs.length sc, .string E.text] 37 (0, 0)) ∧ OwnBook wr 0 (bookV B0 s0) B0 k0 ∧ OwnBook wr 0 (bookV R1 s1) R1 k1) := hz2.1
            have HY2 : Hid ((Fr (fun x => x = P) w3 wr ∧ wr.heap[P]? = some (.cells #[.int .i64 B0.n, .slice s0.ao B0.orders.length s0.co, .slice s0.al B0.locked.length s0.cl, .slice s0.ac B0.occ.length s0.cc] 29 (0, 0)) ∧ wr.heap[wo.heap.size]? = some (.cells #[.int .i64 cd, .int .i64 R1.n, .slice s1.ao R1.orders.length s1.co, .slice s1.al R1.locked.length s1.cl, .slice s1.ac R1.occ.length s1.cc] 34 (0, 0)) ∧ wr.heap[wo.heap.size + 1]? = some (.cells #[.int .i64 E.op, .int .i64 E.of_, .string E.holder, .int .i64 E.kind, .slice sa E.secs.length sc, .string E.text] 37 (0, 0)) ∧ OwnBook wr 0 (bookV B0 s0) B0 k0 ∧ OwnBook wr 0 (bookV R1 s1) R1 k1) ∧ wr.heap[wo.heap.size + 2]? = some (.cells #[.string (bX R1 j).holder, .int .i64 (bX R1 j).kind, .slice (some ⟨bs, os, none⟩) (bX R1 j).secs.length (k1.sc j), .int .i64 (bX R1 j).state] 39 (0, 0)) ∧ Cells wr (some ⟨bs, os, none⟩) (bX R1 j).secs.length (iV (bX R1 j).secs) ∧ wo.heap.size + 2 < wr.heap.size) := hz2
            clear hz2
            by_cases hqlt : q < (bX R1 j).secs.length
            · skip
              obtain ⟨sn, hs1', hs2, hs3, hs4, hs5, hs6, hs7⟩ := HQ.out q hqlt
              obtain ⟨bs', os', hs8, hs9⟩ := HY2.out.2.2.1
              obtain ⟨rfl, rfl⟩ : bs = bs' ∧ os = os' := by have := hs8 hj1; simpa using this
              have c9 : wr.cell? ⟨bs, os + q, none⟩ = some (.int .i64 (sn : Int)) := by
                have := hs9 q hqlt
                unfold iV at this
                rw [hs1'] at this
                exact this
              obtain ⟨o0, o1, o2, o3⟩ := box_cells HY2.out.2.1
              obtain ⟨p0, p1, p2, p3⟩ := box_cells HZ.out.2.1
              obtain ⟨aq, bq, cq, dq, eq, fq, eqq, -, ⟨bl', ol', hl1, hl2⟩, ⟨bo', oo2, ho1, ho2⟩⟩ := HZ.out.2.2.2.2.1.bookAt
              simp only [bookV, Value.agg.injEq, Array.mk.injEq, List.cons.injEq, Value.slice.injEq, and_true, true_and] at eqq
              obtain ⟨⟨q1, q2⟩, ⟨q3, q4⟩, q5, q6⟩ := eqq
              have hl3 := hl1 (by omega)
              have ho3 := ho1 (by omega)
              have ql : s0.al = some ⟨bl', ol', none⟩ := q3.trans hl3
              have qo : s0.ac = some ⟨bo', oo2, none⟩ := q5.trans ho3
              have l9 : wr.cell? ⟨bl', ol' + sn, none⟩ = some (.bool false) := by
                have := hl2 sn hs4
                unfold bV at this
                rw [hs6] at this
                exact this
              have u9 : wr.cell? ⟨bo', oo2 + sn, none⟩ = some (.bool (B0.occ.getD sn false)) := ho2 sn hs3
              have HH : Hid ((∀ i, i < B0.orders.length → ¬ Has (bX B0 i) (sn : Int)) ∧ s0.al = some ⟨bl', ol', none⟩ ∧ s0.ac = some ⟨bo', oo2, none⟩) := ⟨hs7, ql, qo⟩
              have wfs : (Lit.int .i64 (sn : Int)).wf = true := by simp [Lit.wf, IntKind.min, IntKind.max, IntKind.signed, IntKind.bits]; omega
              have nl : (sn : Int) < (B0.locked.length : Int) := by omega
              have no : (sn : Int) < (B0.occ.length : Int) := by omega
              have n0 : (0 : Int) ≤ (sn : Int) := by omega
              have hl60 : (B0.locked.length : Int) ≤ 60 := by have := HF.out.1.1.2.1; have := HF.out.1.1.1.2; omega
              have ho60 : (B0.occ.length : Int) ≤ 60 := by have := HF.out.1.1.2.2.1; have := HF.out.1.1.1.2; omega
              have zP : P < wr.heap.size := (Array.getElem?_eq_some_iff.1 HZ.out.2.1).1
              rw [ql] at p2
              rw [qo] at p3
              clear hs1' hs7 hs8 hs9 hl1 hl2 ho1 ho2 ql qo q1 q2 q3 q4 q5 q6 hl3 ho3
              by_cases hk2 : (bX R1 j).kind = 2
              · skip
                have tk : ((bX R1 j).kind == 2) = true := by simpa using hk2
                rw [hs5 hk2] at u9
                clear hk2 hs5 hs6
                go_wp2_with fail
                refine (implWho_any _ B0 (sn : Int) _ HF.out.2.2.1.1 HF.out.2.2.1.2 wfs (by have := HZ.out.2.2.2.2.1.bookAt; unfold bookV at this; rw [HH.out.2.1, HH.out.2.2] at this; exact this)).mono ?_
                rintro e w9 ⟨⟨r9, rfl, hr9⟩, hb9⟩
                have r1 : r9 = -1 := by
                  rcases hr9 with ⟨_, h⟩ | ⟨_, i, hi, _, hh⟩ | ⟨_, h, _⟩
                  · exact h
                  · exact absurd hh (HH.out.1 i hi)
                  · exact h
                subst r1
                have HN2 : Hid ((Fr (fun x => x = P) w3 w9 ∧ w9.heap[P]? = some (.cells #[.int .i64 B0.n, .slice s0.ao B0.orders.length s0.co, .slice s0.al B0.locked.length s0.cl, .slice s0.ac B0.occ.length s0.cc] 29 (0, 0)) ∧ w9.heap[wo.heap.size]? = some (.cells #[.int .i64 cd, .int .i64 R1.n, .slice s1.ao R1.orders.length s1.co, .slice s1.al R1.locked.length s1.cl, .slice s1.ac R1.occ.length s1.cc] 34 (0, 0)) ∧ w9.heap[wo.heap.size + 1]? = some (.cells #[.int .i64 E.op, .int .i64 E.of_, .string E.holder, .int .i64 E.kind, .slice sa E.secs.length sc, .string E.text] 37 (0, 0)) ∧ OwnBook w9 0 (bookV B0 s0) B0 k0 ∧ OwnBook w9 0 (bookV R1 s1) R1 k1) ∧ w9.heap[wo.heap.size + 2]? = some (.cells #[.string (bX R1 j).holder, .int .i64 (bX R1 j).kind, .slice (some ⟨bs, os, none⟩) (bX R1 j).secs.length (k1.sc j), .int .i64 (bX R1 j).state] 39 (0, 0)) ∧ Cells w9 (some ⟨bs, os, none⟩) (bX R1 j).secs.length (iV (bX R1 j).secs) ∧ wo.heap.size + 2 < w9.heap.size) := ⟨⟨HZ.out.1.trans (Fr.of_below hb9), (hb9.block _ zP).trans HZ.out.2.1, (hb9.block _ (Array.getElem?_eq_some_iff.1 HZ.out.2.2.1).1).trans HZ.out.2.2.1, (hb9.block _ (Array.getElem?_eq_some_iff.1 HZ.out.2.2.2.1).1).trans HZ.out.2.2.2.1, HZ.out.2.2.2.2.1.below hb9, HZ.out.2.2.2.2.2.below hb9⟩, (hb9.block _ HY2.out.2.2.2).trans HY2.out.2.1, HY2.out.2.2.1.below hb9, Nat.lt_of_lt_of_le HY2.out.2.2.2 hb9.size⟩
                clear hb9 hr9
                go_wp2
                go_roundw
                case rel => exact ⟨q + 1, by omega, by go_num, HN2.out⟩
                case measure => simp [intOf]; omega
              · skip
                have tk : ((bX R1 j).kind == 2) = false := by simpa using hk2
                clear hk2 hs5 hs6
                go_wp2_with fail
                refine (implWho_any _ B0 (sn : Int) _ HF.out.2.2.1.1 HF.out.2.2.1.2 wfs (by have := HZ.out.2.2.2.2.1.bookAt; unfold bookV at this; rw [HH.out.2.1, HH.out.2.2] at this; exact this)).mono ?_
                rintro e w9 ⟨⟨r9, rfl, hr9⟩, hb9⟩
                have r1 : r9 = -1 := by
                  rcases hr9 with ⟨_, h⟩ | ⟨_, i, hi, _, hh⟩ | ⟨_, h, _⟩
                  · exact h
                  · exact absurd hh (HH.out.1 i hi)
                  · exact h
                subst r1
                have HN2 : Hid ((Fr (fun x => x = P) w3 w9 ∧ w9.heap[P]? = some (.cells #[.int .i64 B0.n, .slice s0.ao B0.orders.length s0.co, .slice s0.al B0.locked.length s0.cl, .slice s0.ac B0.occ.length s0.cc] 29 (0, 0)) ∧ w9.heap[wo.heap.size]? = some (.cells #[.int .i64 cd, .int .i64 R1.n, .slice s1.ao R1.orders.length s1.co, .slice s1.al R1.locked.length s1.cl, .slice s1.ac R1.occ.length s1.cc] 34 (0, 0)) ∧ w9.heap[wo.heap.size + 1]? = some (.cells #[.int .i64 E.op, .int .i64 E.of_, .string E.holder, .int .i64 E.kind, .slice sa E.secs.length sc, .string E.text] 37 (0, 0)) ∧ OwnBook w9 0 (bookV B0 s0) B0 k0 ∧ OwnBook w9 0 (bookV R1 s1) R1 k1) ∧ w9.heap[wo.heap.size + 2]? = some (.cells #[.string (bX R1 j).holder, .int .i64 (bX R1 j).kind, .slice (some ⟨bs, os, none⟩) (bX R1 j).secs.length (k1.sc j), .int .i64 (bX R1 j).state] 39 (0, 0)) ∧ Cells w9 (some ⟨bs, os, none⟩) (bX R1 j).secs.length (iV (bX R1 j).secs) ∧ wo.heap.size + 2 < w9.heap.size) := ⟨⟨HZ.out.1.trans (Fr.of_below hb9), (hb9.block _ zP).trans HZ.out.2.1, (hb9.block _ (Array.getElem?_eq_some_iff.1 HZ.out.2.2.1).1).trans HZ.out.2.2.1, (hb9.block _ (Array.getElem?_eq_some_iff.1 HZ.out.2.2.2.1).1).trans HZ.out.2.2.2.1, HZ.out.2.2.2.2.1.below hb9, HZ.out.2.2.2.2.2.below hb9⟩, (hb9.block _ HY2.out.2.2.2).trans HY2.out.2.1, HY2.out.2.2.1.below hb9, Nat.lt_of_lt_of_le HY2.out.2.2.2 hb9.size⟩
                clear hb9 hr9
                go_wp2
                go_roundw
                case rel => exact ⟨q + 1, by omega, by go_num, HN2.out⟩
                case measure => simp [intOf]; omega
            · skip
              have t6 : (E.op == 6) = false := by rw [G1.out]; rfl
              obtain ⟨p0, p1, p2, p3⟩ := box_cells HZ.out.2.1
              obtain ⟨d0, d1, d2, d3, d4⟩ := dcells HZ.out.2.2.1
              obtain ⟨e0, e1, e2, e3, e4, e5⟩ := ev_cells HZ.out.2.2.2.1
              have zP : P < wr.heap.size := (Array.getElem?_eq_some_iff.1 HZ.out.2.1).1
              have zd : wo.heap.size < wr.heap.size := (Array.getElem?_eq_some_iff.1 HZ.out.2.2.1).1
              have ze : wo.heap.size + 1 < wr.heap.size := (Array.getElem?_eq_some_iff.1 HZ.out.2.2.2.1).1
              have fP0 : wr.frozen? ⟨P, 0, none⟩ = false := frozen_of_box HZ.out.2.1
              have fP1 : wr.frozen? ⟨P, 1, none⟩ = false := frozen_of_box HZ.out.2.1
              have fP2 : wr.frozen? ⟨P, 2, none⟩ = false := frozen_of_box HZ.out.2.1
              have fP3 : wr.frozen? ⟨P, 3, none⟩ = false := frozen_of_box HZ.out.2.1
              clear HY2
              obtain ⟨o0, o1, o2, o3⟩ : True ∧ True ∧ True ∧ True := ⟨trivial, trivial, trivial, trivial⟩
              clear o0 o1 o2 o3
              go_upto_region 20 with (fail)
              refine wp_region_held_drew (S := (fun w' => w'.cell? ⟨wo.heap.size + 1, 0, none⟩ = some (.int .i64 E.op) ∧ w'.cell? ⟨wo.heap.size + 1, 1, none⟩ = some (.int .i64 E.of_) ∧ w'.cell? ⟨wo.heap.size, 0, none⟩ = some (.int .i64 cd) ∧ w'.cell? ⟨P, 0, none⟩ = some (.int .i64 B0.n) ∧ w'.cell? ⟨P, 1, none⟩ = some (.slice s0.ao B0.orders.length s0.co) ∧ w'.cell? ⟨P, 2, none⟩ = some (.slice s0.al B0.locked.length s0.cl) ∧ w'.cell? ⟨P, 3, none⟩ = some (.slice s0.ac B0.occ.length s0.cc))) (by kernel_rfl) (by simp [go_sem, e0, e1, d0, p0, p1, p2, p3]) (fun hS0 => ?_)
              refine wpAnyH_take (i := 0) (v := ?_) rfl (by kernel_rfl) (by kernel_rfl) (by kernel_rfl) (fun _ _ _ h => h) (Or.inl ⟨by kernel_rfl, ?_⟩) (by assumption) ?_
              rotate_left 1
              · (intro w hSw; (try dsimp only at hSw); go_simp; try (with_reducible rfl))
              refine wpAnyH_take (i := 1) (v := ?_) rfl (by kernel_rfl) (by kernel_rfl) (by kernel_rfl) (fun _ _ _ h => h) (Or.inl ⟨by kernel_rfl, ?_⟩) (by assumption) ?_
              rotate_left 1
              · (intro w hSw; (try dsimp only at hSw); go_simp; try (with_reducible rfl))
              refine wpAnyH_take (i := 2) (v := ?_) rfl (by kernel_rfl) (by kernel_rfl) (by kernel_rfl) (fun _ _ _ h => h) (Or.inl ⟨by kernel_rfl, ?_⟩) (by assumption) ?_
              rotate_left 1
              · (intro w hSw; (try dsimp only at hSw); go_simp; try (with_reducible rfl))
              refine wpAnyH_take (i := 3) (v := ?_) rfl (by kernel_rfl) (by kernel_rfl) (by kernel_rfl) (fun _ _ _ h => h) (Or.inl ⟨by kernel_rfl, ?_⟩) (by assumption) ?_
              rotate_left 1
              · (intro w hSw; (try dsimp only at hSw); go_simp; try (with_reducible rfl))
              refine wpAnyH_take (i := 4) (v := undef) rfl (by kernel_rfl) (by kernel_rfl) (by kernel_rfl) (fun _ _ _ h => h) (Or.inr ⟨by kernel_rfl, rfl⟩) (by assumption) ?_
              refine wpAnyH_take (i := 5) (v := undef) rfl (by kernel_rfl) (by kernel_rfl) (by kernel_rfl) (fun _ _ _ h => h) (Or.inr ⟨by kernel_rfl, rfl⟩) (by assumption) ?_
              refine wpAnyH_take (i := 6) (v := undef) rfl (by kernel_rfl) (by kernel_rfl) (by kernel_rfl) (fun _ _ _ h => h) (Or.inr ⟨by kernel_rfl, rfl⟩) (by assumption) ?_
              refine wpAnyH_take (i := 7) (v := ?_) rfl (by kernel_rfl) (by kernel_rfl) (by kernel_rfl) (fun _ _ _ h => h) (Or.inl ⟨by kernel_rfl, ?_⟩) (by assumption) ?_
              rotate_left 1
              · (intro w hSw; (try dsimp only at hSw); go_simp; try (with_reducible rfl))
              refine wpAnyH_take (i := 8) (v := ?_) rfl (by kernel_rfl) (by kernel_rfl) (by kernel_rfl) (fun _ _ _ h => h) (Or.inl ⟨by kernel_rfl, ?_⟩) (by assumption) ?_
              rotate_left 1
              · (intro w hSw; (try dsimp only at hSw); go_simp; try (with_reducible rfl))
              refine wpAnyH_take (i := 9) (v := undef) rfl (by kernel_rfl) (by kernel_rfl) (by kernel_rfl) (fun _ _ _ h => h) (Or.inr ⟨by kernel_rfl, rfl⟩) (by assumption) ?_
              refine wpAnyH_take (i := 10) (v := undef) rfl (by kernel_rfl) (by kernel_rfl) (by kernel_rfl) (fun _ _ _ h => h) (Or.inr ⟨by kernel_rfl, rfl⟩) (by assumption) ?_
              refine wpAnyH_take (i := 11) (v := undef) rfl (by kernel_rfl) (by kernel_rfl) (by kernel_rfl) (fun _ _ _ h => h) (Or.inr ⟨by kernel_rfl, rfl⟩) (by assumption) ?_
              refine wpAnyH_take (i := 12) (v := undef) rfl (by kernel_rfl) (by kernel_rfl) (by kernel_rfl) (fun _ _ _ h => h) (Or.inr ⟨by kernel_rfl, rfl⟩) (by assumption) ?_
              refine wpAnyH_take (i := 13) (v := ?_) rfl (by kernel_rfl) (by kernel_rfl) (by kernel_rfl) (fun _ _ _ h => h) (Or.inl ⟨by kernel_rfl, ?_⟩) (by assumption) ?_
              rotate_left 1
              · (intro w hSw; (try dsimp only at hSw); go_simp; try (with_reducible rfl))
              refine wpAnyH_take (i := 14) (v := ?_) rfl (by kernel_rfl) (by kernel_rfl) (by kernel_rfl) (fun _ _ _ h => h) (Or.inl ⟨by kernel_rfl, ?_⟩) (by assumption) ?_
              rotate_left 1
              · (intro w hSw; (try dsimp only at hSw); go_simp; try (with_reducible rfl))
              refine wpAnyH_take (i := 15) (v := undef) rfl (by kernel_rfl) (by kernel_rfl) (by kernel_rfl) (fun _ _ _ h => h) (Or.inr ⟨by kernel_rfl, rfl⟩) (by assumption) ?_
              refine wpAnyH_take (i := 16) (v := undef) rfl (by kernel_rfl) (by kernel_rfl) (by kernel_rfl) (fun _ _ _ h => h) (Or.inr ⟨by kernel_rfl, rfl⟩) (by assumption) ?_
              refine wpAnyH_take (i := 17) (v := undef) rfl (by kernel_rfl) (by kernel_rfl) (by kernel_rfl) (fun _ _ _ h => h) (Or.inr ⟨by kernel_rfl, rfl⟩) (by assumption) ?_
              refine wpAnyH_take (i := 18) (v := ?_) rfl (by kernel_rfl) (by kernel_rfl) (by kernel_rfl) (fun _ _ _ h => h) (Or.inl ⟨by kernel_rfl, ?_⟩) (by assumption) ?_
              rotate_left 1
              · (intro w hSw; (try dsimp only at hSw); go_simp; try (with_reducible rfl))
              refine wpAnyH_take (i := 19) (v := ?_) rfl (by kernel_rfl) (by kernel_rfl) (by kernel_rfl) (fun _ _ _ h => h) (Or.inl ⟨by kernel_rfl, ?_⟩) (by assumption) ?_
              rotate_left 1
              · (intro w hSw; (try dsimp only at hSw); go_simp; try (with_reducible rfl))
              refine wpAnyH_take (i := 20) (v := undef) rfl (by kernel_rfl) (by kernel_rfl) (by kernel_rfl) (fun _ _ _ h => h) (Or.inr ⟨by kernel_rfl, rfl⟩) (by assumption) ?_
              refine wpAnyH_take (i := 21) (v := undef) rfl (by kernel_rfl) (by kernel_rfl) (by kernel_rfl) (fun _ _ _ h => h) (Or.inr ⟨by kernel_rfl, rfl⟩) (by assumption) ?_
              refine wpAnyH_take (i := 22) (v := undef) rfl (by kernel_rfl) (by kernel_rfl) (by kernel_rfl) (fun _ _ _ h => h) (Or.inr ⟨by kernel_rfl, rfl⟩) (by assumption) ?_
              refine wpAnyH_take (i := 23) (v := undef) rfl (by kernel_rfl) (by kernel_rfl) (by kernel_rfl) (fun _ _ _ h => h) (Or.inr ⟨by kernel_rfl, rfl⟩) (by assumption) ?_
              refine wpAnyH_take (i := 24) (v := undef) rfl (by kernel_rfl) (by kernel_rfl) (by kernel_rfl) (fun _ _ _ h => h) (Or.inr ⟨by kernel_rfl, rfl⟩) (by assumption) ?_
              refine wpAnyH_take (i := 25) (v := undef) rfl (by kernel_rfl) (by kernel_rfl) (by kernel_rfl) (fun _ _ _ h => h) (Or.inr ⟨by kernel_rfl, rfl⟩) (by assumption) ?_
              refine wpAnyH_take (i := 26) (v := undef) rfl (by kernel_rfl) (by kernel_rfl) (by kernel_rfl) (fun _ _ _ h => h) (Or.inr ⟨by kernel_rfl, rfl⟩) (by assumption) ?_
              refine wpAnyH_take (i := 27) (v := undef) rfl (by kernel_rfl) (by kernel_rfl) (by kernel_rfl) (fun _ _ _ h => h) (Or.inr ⟨by kernel_rfl, rfl⟩) (by assumption) ?_
              refine wpAnyH_take (i := 28) (v := undef) rfl (by kernel_rfl) (by kernel_rfl) (by kernel_rfl) (fun _ _ _ h => h) (Or.inr ⟨by kernel_rfl, rfl⟩) (by assumption) ?_
              refine wpAnyH_take (i := 29) (v := ?_) rfl (by kernel_rfl) (by kernel_rfl) (by kernel_rfl) (fun _ _ _ h => h) (Or.inl ⟨by kernel_rfl, ?_⟩) (by assumption) ?_
              rotate_left 1
              · (intro w hSw; (try dsimp only at hSw); go_simp; try (with_reducible rfl))
              refine wpAnyH_done (by kernel_rfl) ?_ _
              go_simp
              have HY : Hid (Fr (fun x => x = P) w3 wr.drew ∧ wr.drew.heap[P]? = some (.cells #[.int .i64 B0.n, .slice s0.ao B0.orders.length s0.co, .slice s0.al B0.locked.length s0.cl, .slice s0.ac B0.occ.length s0.cc] 29 (0, 0)) ∧ wr.drew.heap[wo.heap.size]? = some (.cells #[.int .i64 cd, .int .i64 R1.n, .slice s1.ao R1.orders.length s1.co, .slice s1.al R1.locked.length s1.cl, .slice s1.ac R1.occ.length s1.cc] 34 (0, 0)) ∧ wr.drew.heap[wo.heap.size + 1]? = some (.cells #[.int .i64 E.op, .int .i64 E.of_, .string E.holder, .int .i64 E.kind, .slice sa E.secs.length sc, .string E.text] 37 (0, 0)) ∧ OwnBook wr.drew 0 (bookV B0 s0) B0 k0 ∧ OwnBook wr.drew 0 (bookV R1 s1) R1 k1) := ⟨HZ.out.1.drew', HZ.out.2.1, HZ.out.2.2.1, HZ.out.2.2.2.1, HZ.out.2.2.2.2.1.below (Below.refl _ _).drew, HZ.out.2.2.2.2.2.below (Below.refl _ _).drew⟩
              clear HZ
              obtain ⟨Y, hY⟩ : ∃ Y, Y = wr.drew := ⟨_, rfl⟩
              rw [← hY] at HY ⊢
              clear hY p0 p1 p2 p3 d0 d1 d2 d3 d4 e0 e1 e2 e3 e4 e5 zP zd ze fP0 fP1 fP2 fP3
              obtain ⟨p0, p1, p2, p3⟩ := box_cells HY.out.2.1
              obtain ⟨d0, d1, d2, d3, d4⟩ := dcells HY.out.2.2.1
              obtain ⟨e0, e1, e2, e3, e4, e5⟩ := ev_cells HY.out.2.2.2.1
              have zP : P < Y.heap.size := (Array.getElem?_eq_some_iff.1 HY.out.2.1).1
              have zd : wo.heap.size < Y.heap.size := (Array.getElem?_eq_some_iff.1 HY.out.2.2.1).1
              have ze : wo.heap.size + 1 < Y.heap.size := (Array.getElem?_eq_some_iff.1 HY.out.2.2.2.1).1
              have fP0 : Y.frozen? ⟨P, 0, none⟩ = false := frozen_of_box HY.out.2.1
              have fP1 : Y.frozen? ⟨P, 1, none⟩ = false := frozen_of_box HY.out.2.1
              have fP2 : Y.frozen? ⟨P, 2, none⟩ = false := frozen_of_box HY.out.2.1
              have fP3 : Y.frozen? ⟨P, 3, none⟩ = false := frozen_of_box HY.out.2.1
              go_wp2
              go_roundw
              case rel => exact ⟨k + 1, by omega, by go_num, (HY.out.1).trans (putBook_fr Y P R1 s1), HNX.out _ (putBook_box HY.out.2.1)⟩
              case measure => simp [intOf]; omega
        · have tc : (cd == 0) = false := by simpa using g2
          have t6 : (E.op == 6) = false := by rw [g1]; rfl
          clear g1 g2
          go_upto_region 20 with (fail)
          have HZ : Hid (Fr (fun x => x = P) w3 ((wo.alloc (.cells #[.int .i64 cd, .int .i64 R1.n, .slice s1.ao R1.orders.length s1.co, .slice s1.al R1.locked.length s1.cl, .slice s1.ac R1.occ.length s1.cc] 34)).alloc (.cells #[.int .i64 E.op, .int .i64 E.of_, .string E.holder, .int .i64 E.kind, .slice sa E.secs.length sc, .string E.text] 37)) ∧ ((wo.alloc (.cells #[.int .i64 cd, .int .i64 R1.n, .slice s1.ao R1.orders.length s1.co, .slice s1.al R1.locked.length s1.cl, .slice s1.ac R1.occ.length s1.cc] 34)).alloc (.cells #[.int .i64 E.op, .int .i64 E.of_, .string E.holder, .int .i64 E.kind, .slice sa E.secs.length sc, .string E.text] 37)).heap[P]? = some (.cells #[.int .i64 B0.n, .slice s0.ao B0.orders.length s0.co, .slice s0.al B0.locked.length s0.cl, .slice s0.ac B0.occ.length s0.cc] 29 (0, 0)) ∧ ((wo.alloc (.cells #[.int .i64 cd, .int .i64 R1.n, .slice s1.ao R1.orders.length s1.co, .slice s1.al R1.locked.length s1.cl, .slice s1.ac R1.occ.length s1.cc] 34)).alloc (.cells #[.int .i64 E.op, .int .i64 E.of_, .string E.holder, .int .i64 E.kind, .slice sa E.secs.length sc, .string E.text] 37)).heap[wo.heap.size]? = some (.cells #[.int .i64 cd, .int .i64 R1.n, .slice s1.ao R1.orders.length s1.co, .slice s1.al R1.locked.length s1.cl, .slice s1.ac R1.occ.length s1.cc] 34 (0, 0)) ∧ ((wo.alloc (.cells #[.int .i64 cd, .int .i64 R1.n, .slice s1.ao R1.orders.length s1.co, .slice s1.al R1.locked.length s1.cl, .slice s1.ac R1.occ.length s1.cc] 34)).alloc (.cells #[.int .i64 E.op, .int .i64 E.of_, .string E.holder, .int .i64 E.kind, .slice sa E.secs.length sc, .string E.text] 37)).heap[wo.heap.size + 1]? = some (.cells #[.int .i64 E.op, .int .i64 E.of_, .string E.holder, .int .i64 E.kind, .slice sa E.secs.length sc, .string E.text] 37 (0, 0)) ∧ OwnBook ((wo.alloc (.cells #[.int .i64 cd, .int .i64 R1.n, .slice s1.ao R1.orders.length s1.co, .slice s1.al R1.locked.length s1.cl, .slice s1.ac R1.occ.length s1.cc] 34)).alloc (.cells #[.int .i64 E.op, .int .i64 E.of_, .string E.holder, .int .i64 E.kind, .slice sa E.secs.length sc, .string E.text] 37)) 0 (bookV B0 s0) B0 k0 ∧ OwnBook ((wo.alloc (.cells #[.int .i64 cd, .int .i64 R1.n, .slice s1.ao R1.orders.length s1.co, .slice s1.al R1.locked.length s1.cl, .slice s1.ac R1.occ.length s1.cc] 34)).alloc (.cells #[.int .i64 E.op, .int .i64 E.of_, .string E.holder, .int .i64 E.kind, .slice sa E.secs.length sc, .string E.text] 37)) 0 (bookV R1 s1) R1 k1) := ⟨HO.out.1.trans (Fr.of_below (below2 _ _ _)), ((below2 _ _ _).block _ zP).trans HO.out.2.1, (boxes2 _ _ _ _ _).1, (boxes2 _ _ _ _ _).2, HO.out.2.2.1.below (below2 _ _ _), HO.out.2.2.2.below (below2 _ _ _)⟩
          obtain ⟨Z, hZ⟩ : ∃ Z, Z = ((wo.alloc (.cells #[.int .i64 cd, .int .i64 R1.n, .slice s1.ao R1.orders.length s1.co, .slice s1.al R1.locked.length s1.cl, .slice s1.ac R1.occ.length s1.cc] 34)).alloc (.cells #[.int .i64 E.op, .int .i64 E.of_, .string E.holder, .int .i64 E.kind, .slice sa E.secs.length sc, .string E.text] 37)) := ⟨_, rfl⟩
          rw [← hZ] at HZ ⊢
          clear hZ p0 p1 p2 p3 x0 x1 x2 x3 x4 x5 y0 y1 y2 y3 y4 lb lG zP
          obtain ⟨p0, p1, p2, p3⟩ := box_cells HZ.out.2.1
          obtain ⟨d0, d1, d2, d3, d4⟩ := dcells HZ.out.2.2.1
          obtain ⟨e0, e1, e2, e3, e4, e5⟩ := ev_cells HZ.out.2.2.2.1
          have zP : P < Z.heap.size := (Array.getElem?_eq_some_iff.1 HZ.out.2.1).1
          have zd : wo.heap.size < Z.heap.size := (Array.getElem?_eq_some_iff.1 HZ.out.2.2.1).1
          have ze : wo.heap.size + 1 < Z.heap.size := (Array.getElem?_eq_some_iff.1 HZ.out.2.2.2.1).1
          have fP0 : Z.frozen? ⟨P, 0, none⟩ = false := frozen_of_box HZ.out.2.1
          have fP1 : Z.frozen? ⟨P, 1, none⟩ = false := frozen_of_box HZ.out.2.1
          have fP2 : Z.frozen? ⟨P, 2, none⟩ = false := frozen_of_box HZ.out.2.1
          have fP3 : Z.frozen? ⟨P, 3, none⟩ = false := frozen_of_box HZ.out.2.1
          refine wp_region_held_drew (S := (fun w' => w'.cell? ⟨wo.heap.size + 1, 0, none⟩ = some (.int .i64 E.op) ∧ w'.cell? ⟨wo.heap.size + 1, 1, none⟩ = some (.int .i64 E.of_) ∧ w'.cell? ⟨wo.heap.size, 0, none⟩ = some (.int .i64 cd) ∧ w'.cell? ⟨P, 0, none⟩ = some (.int .i64 B0.n) ∧ w'.cell? ⟨P, 1, none⟩ = some (.slice s0.ao B0.orders.length s0.co) ∧ w'.cell? ⟨P, 2, none⟩ = some (.slice s0.al B0.locked.length s0.cl) ∧ w'.cell? ⟨P, 3, none⟩ = some (.slice s0.ac B0.occ.length s0.cc))) (by kernel_rfl) (by simp [go_sem, e0, e1, d0, p0, p1, p2, p3]) (fun hS0 => ?_)
          refine wpAnyH_take (i := 0) (v := ?_) rfl (by kernel_rfl) (by kernel_rfl) (by kernel_rfl) (fun _ _ _ h => h) (Or.inl ⟨by kernel_rfl, ?_⟩) (by assumption) ?_
          rotate_left 1
          · (intro w hSw; (try dsimp only at hSw); go_simp; try (with_reducible rfl))
          refine wpAnyH_take (i := 1) (v := ?_) rfl (by kernel_rfl) (by kernel_rfl) (by kernel_rfl) (fun _ _ _ h => h) (Or.inl ⟨by kernel_rfl, ?_⟩) (by assumption) ?_
          rotate_left 1
          · (intro w hSw; (try dsimp only at hSw); go_simp; try (with_reducible rfl))
          refine wpAnyH_take (i := 2) (v := ?_) rfl (by kernel_rfl) (by kernel_rfl) (by kernel_rfl) (fun _ _ _ h => h) (Or.inl ⟨by kernel_rfl, ?_⟩) (by assumption) ?_
          rotate_left 1
          · (intro w hSw; (try dsimp only at hSw); go_simp; try (with_reducible rfl))
          refine wpAnyH_take (i := 3) (v := ?_) rfl (by kernel_rfl) (by kernel_rfl) (by kernel_rfl) (fun _ _ _ h => h) (Or.inl ⟨by kernel_rfl, ?_⟩) (by assumption) ?_
          rotate_left 1
          · (intro w hSw; (try dsimp only at hSw); go_simp; try (with_reducible rfl))
          refine wpAnyH_take (i := 4) (v := undef) rfl (by kernel_rfl) (by kernel_rfl) (by kernel_rfl) (fun _ _ _ h => h) (Or.inr ⟨by kernel_rfl, rfl⟩) (by assumption) ?_
          refine wpAnyH_take (i := 5) (v := undef) rfl (by kernel_rfl) (by kernel_rfl) (by kernel_rfl) (fun _ _ _ h => h) (Or.inr ⟨by kernel_rfl, rfl⟩) (by assumption) ?_
          refine wpAnyH_take (i := 6) (v := undef) rfl (by kernel_rfl) (by kernel_rfl) (by kernel_rfl) (fun _ _ _ h => h) (Or.inr ⟨by kernel_rfl, rfl⟩) (by assumption) ?_
          refine wpAnyH_take (i := 7) (v := ?_) rfl (by kernel_rfl) (by kernel_rfl) (by kernel_rfl) (fun _ _ _ h => h) (Or.inl ⟨by kernel_rfl, ?_⟩) (by assumption) ?_
          rotate_left 1
          · (intro w hSw; (try dsimp only at hSw); go_simp; try (with_reducible rfl))
          refine wpAnyH_take (i := 8) (v := ?_) rfl (by kernel_rfl) (by kernel_rfl) (by kernel_rfl) (fun _ _ _ h => h) (Or.inl ⟨by kernel_rfl, ?_⟩) (by assumption) ?_
          rotate_left 1
          · (intro w hSw; (try dsimp only at hSw); go_simp; try (with_reducible rfl))
          refine wpAnyH_take (i := 9) (v := undef) rfl (by kernel_rfl) (by kernel_rfl) (by kernel_rfl) (fun _ _ _ h => h) (Or.inr ⟨by kernel_rfl, rfl⟩) (by assumption) ?_
          refine wpAnyH_take (i := 10) (v := undef) rfl (by kernel_rfl) (by kernel_rfl) (by kernel_rfl) (fun _ _ _ h => h) (Or.inr ⟨by kernel_rfl, rfl⟩) (by assumption) ?_
          refine wpAnyH_take (i := 11) (v := undef) rfl (by kernel_rfl) (by kernel_rfl) (by kernel_rfl) (fun _ _ _ h => h) (Or.inr ⟨by kernel_rfl, rfl⟩) (by assumption) ?_
          refine wpAnyH_take (i := 12) (v := undef) rfl (by kernel_rfl) (by kernel_rfl) (by kernel_rfl) (fun _ _ _ h => h) (Or.inr ⟨by kernel_rfl, rfl⟩) (by assumption) ?_
          refine wpAnyH_take (i := 13) (v := ?_) rfl (by kernel_rfl) (by kernel_rfl) (by kernel_rfl) (fun _ _ _ h => h) (Or.inl ⟨by kernel_rfl, ?_⟩) (by assumption) ?_
          rotate_left 1
          · (intro w hSw; (try dsimp only at hSw); go_simp; try (with_reducible rfl))
          refine wpAnyH_take (i := 14) (v := ?_) rfl (by kernel_rfl) (by kernel_rfl) (by kernel_rfl) (fun _ _ _ h => h) (Or.inl ⟨by kernel_rfl, ?_⟩) (by assumption) ?_
          rotate_left 1
          · (intro w hSw; (try dsimp only at hSw); go_simp; try (with_reducible rfl))
          refine wpAnyH_take (i := 15) (v := undef) rfl (by kernel_rfl) (by kernel_rfl) (by kernel_rfl) (fun _ _ _ h => h) (Or.inr ⟨by kernel_rfl, rfl⟩) (by assumption) ?_
          refine wpAnyH_take (i := 16) (v := undef) rfl (by kernel_rfl) (by kernel_rfl) (by kernel_rfl) (fun _ _ _ h => h) (Or.inr ⟨by kernel_rfl, rfl⟩) (by assumption) ?_
          refine wpAnyH_take (i := 17) (v := undef) rfl (by kernel_rfl) (by kernel_rfl) (by kernel_rfl) (fun _ _ _ h => h) (Or.inr ⟨by kernel_rfl, rfl⟩) (by assumption) ?_
          refine wpAnyH_take (i := 18) (v := ?_) rfl (by kernel_rfl) (by kernel_rfl) (by kernel_rfl) (fun _ _ _ h => h) (Or.inl ⟨by kernel_rfl, ?_⟩) (by assumption) ?_
          rotate_left 1
          · (intro w hSw; (try dsimp only at hSw); go_simp; try (with_reducible rfl))
          refine wpAnyH_take (i := 19) (v := ?_) rfl (by kernel_rfl) (by kernel_rfl) (by kernel_rfl) (fun _ _ _ h => h) (Or.inl ⟨by kernel_rfl, ?_⟩) (by assumption) ?_
          rotate_left 1
          · (intro w hSw; (try dsimp only at hSw); go_simp; try (with_reducible rfl))
          refine wpAnyH_take (i := 20) (v := undef) rfl (by kernel_rfl) (by kernel_rfl) (by kernel_rfl) (fun _ _ _ h => h) (Or.inr ⟨by kernel_rfl, rfl⟩) (by assumption) ?_
          refine wpAnyH_take (i := 21) (v := undef) rfl (by kernel_rfl) (by kernel_rfl) (by kernel_rfl) (fun _ _ _ h => h) (Or.inr ⟨by kernel_rfl, rfl⟩) (by assumption) ?_
          refine wpAnyH_take (i := 22) (v := undef) rfl (by kernel_rfl) (by kernel_rfl) (by kernel_rfl) (fun _ _ _ h => h) (Or.inr ⟨by kernel_rfl, rfl⟩) (by assumption) ?_
          refine wpAnyH_take (i := 23) (v := undef) rfl (by kernel_rfl) (by kernel_rfl) (by kernel_rfl) (fun _ _ _ h => h) (Or.inr ⟨by kernel_rfl, rfl⟩) (by assumption) ?_
          refine wpAnyH_take (i := 24) (v := undef) rfl (by kernel_rfl) (by kernel_rfl) (by kernel_rfl) (fun _ _ _ h => h) (Or.inr ⟨by kernel_rfl, rfl⟩) (by assumption) ?_
          refine wpAnyH_take (i := 25) (v := undef) rfl (by kernel_rfl) (by kernel_rfl) (by kernel_rfl) (fun _ _ _ h => h) (Or.inr ⟨by kernel_rfl, rfl⟩) (by assumption) ?_
          refine wpAnyH_take (i := 26) (v := undef) rfl (by kernel_rfl) (by kernel_rfl) (by kernel_rfl) (fun _ _ _ h => h) (Or.inr ⟨by kernel_rfl, rfl⟩) (by assumption) ?_
          refine wpAnyH_take (i := 27) (v := undef) rfl (by kernel_rfl) (by kernel_rfl) (by kernel_rfl) (fun _ _ _ h => h) (Or.inr ⟨by kernel_rfl, rfl⟩) (by assumption) ?_
          refine wpAnyH_take (i := 28) (v := undef) rfl (by kernel_rfl) (by kernel_rfl) (by kernel_rfl) (fun _ _ _ h => h) (Or.inr ⟨by kernel_rfl, rfl⟩) (by assumption) ?_
          refine wpAnyH_take (i := 29) (v := ?_) rfl (by kernel_rfl) (by kernel_rfl) (by kernel_rfl) (fun _ _ _ h => h) (Or.inl ⟨by kernel_rfl, ?_⟩) (by assumption) ?_
          rotate_left 1
          · (intro w hSw; (try dsimp only at hSw); go_simp; try (with_reducible rfl))
          refine wpAnyH_done (by kernel_rfl) ?_ _
          go_simp
          have HY : Hid (Fr (fun x => x = P) w3 Z.drew ∧ Z.drew.heap[P]? = some (.cells #[.int .i64 B0.n, .slice s0.ao B0.orders.length s0.co, .slice s0.al B0.locked.length s0.cl, .slice s0.ac B0.occ.length s0.cc] 29 (0, 0)) ∧ Z.drew.heap[wo.heap.size]? = some (.cells #[.int .i64 cd, .int .i64 R1.n, .slice s1.ao R1.orders.length s1.co, .slice s1.al R1.locked.length s1.cl, .slice s1.ac R1.occ.length s1.cc] 34 (0, 0)) ∧ Z.drew.heap[wo.heap.size + 1]? = some (.cells #[.int .i64 E.op, .int .i64 E.of_, .string E.holder, .int .i64 E.kind, .slice sa E.secs.length sc, .string E.text] 37 (0, 0)) ∧ OwnBook Z.drew 0 (bookV B0 s0) B0 k0 ∧ OwnBook Z.drew 0 (bookV R1 s1) R1 k1) := ⟨HZ.out.1.drew', HZ.out.2.1, HZ.out.2.2.1, HZ.out.2.2.2.1, HZ.out.2.2.2.2.1.below (Below.refl _ _).drew, HZ.out.2.2.2.2.2.below (Below.refl _ _).drew⟩
          clear HZ
          obtain ⟨Y, hY⟩ : ∃ Y, Y = Z.drew := ⟨_, rfl⟩
          rw [← hY] at HY ⊢
          clear hY p0 p1 p2 p3 d0 d1 d2 d3 d4 e0 e1 e2 e3 e4 e5 zP zd ze fP0 fP1 fP2 fP3
          obtain ⟨p0, p1, p2, p3⟩ := box_cells HY.out.2.1
          obtain ⟨d0, d1, d2, d3, d4⟩ := dcells HY.out.2.2.1
          obtain ⟨e0, e1, e2, e3, e4, e5⟩ := ev_cells HY.out.2.2.2.1
          have zP : P < Y.heap.size := (Array.getElem?_eq_some_iff.1 HY.out.2.1).1
          have zd : wo.heap.size < Y.heap.size := (Array.getElem?_eq_some_iff.1 HY.out.2.2.1).1
          have ze : wo.heap.size + 1 < Y.heap.size := (Array.getElem?_eq_some_iff.1 HY.out.2.2.2.1).1
          have fP0 : Y.frozen? ⟨P, 0, none⟩ = false := frozen_of_box HY.out.2.1
          have fP1 : Y.frozen? ⟨P, 1, none⟩ = false := frozen_of_box HY.out.2.1
          have fP2 : Y.frozen? ⟨P, 2, none⟩ = false := frozen_of_box HY.out.2.1
          have fP3 : Y.frozen? ⟨P, 3, none⟩ = false := frozen_of_box HY.out.2.1
          go_wp2
          go_roundw
          case rel => exact ⟨k + 1, by omega, by go_num, (HY.out.1).trans (putBook_fr Y P R1 s1), HNX.out _ (putBook_box HY.out.2.1)⟩
          case measure => simp [intOf]; omega
      · have t2 : (E.op == 2) = false := by simpa using g1
        clear g1
        by_cases g6 : E.op = 6
        · have t6 : (E.op == 6) = true := by rw [g6]; rfl
          have HO6 : Hid (E.op = 6) := g6
          clear g6
          by_cases l0 : 0 ≤ E.of_
          · have tl0 : decide (0 ≤ E.of_) = true := decide_eq_true l0
            by_cases l1 : E.of_ < m
            · have tl1 : decide (E.of_ < m) = true := decide_eq_true l1
              by_cases l2 : cd = 1
              · have tc1 : (cd == 1) = true := by rw [l2]; rfl
                have tc1' : (cd != 1) = false := by rw [l2]; rfl
                clear l2
                go_upto_region 20 with (fail)
                have HZ : Hid (Fr (fun x => x = P) w3 ((wo.alloc (.cells #[.int .i64 cd, .int .i64 R1.n, .slice s1.ao R1.orders.length s1.co, .slice s1.al R1.locked.length s1.cl, .slice s1.ac R1.occ.length s1.cc] 34)).alloc (.cells #[.int .i64 E.op, .int .i64 E.of_, .string E.holder, .int .i64 E.kind, .slice sa E.secs.length sc, .string E.text] 37)) ∧ ((wo.alloc (.cells #[.int .i64 cd, .int .i64 R1.n, .slice s1.ao R1.orders.length s1.co, .slice s1.al R1.locked.length s1.cl, .slice s1.ac R1.occ.length s1.cc] 34)).alloc (.cells #[.int .i64 E.op, .int .i64 E.of_, .string E.holder, .int .i64 E.kind, .slice sa E.secs.length sc, .string E.text] 37)).heap[P]? = some (.cells #[.int .i64 B0.n, .slice s0.ao B0.orders.length s0.co, .slice s0.al B0.locked.length s0.cl, .slice s0.ac B0.occ.length s0.cc] 29 (0, 0)) ∧ ((wo.alloc (.cells #[.int .i64 cd, .int .i64 R1.n, .slice s1.ao R1.orders.length s1.co, .slice s1.al R1.locked.length s1.cl, .slice s1.ac R1.occ.length s1.cc] 34)).alloc (.cells #[.int .i64 E.op, .int .i64 E.of_, .string E.holder, .int .i64 E.kind, .slice sa E.secs.length sc, .string E.text] 37)).heap[wo.heap.size]? = some (.cells #[.int .i64 cd, .int .i64 R1.n, .slice s1.ao R1.orders.length s1.co, .slice s1.al R1.locked.length s1.cl, .slice s1.ac R1.occ.length s1.cc] 34 (0, 0)) ∧ ((wo.alloc (.cells #[.int .i64 cd, .int .i64 R1.n, .slice s1.ao R1.orders.length s1.co, .slice s1.al R1.locked.length s1.cl, .slice s1.ac R1.occ.length s1.cc] 34)).alloc (.cells #[.int .i64 E.op, .int .i64 E.of_, .string E.holder, .int .i64 E.kind, .slice sa E.secs.length sc, .string E.text] 37)).heap[wo.heap.size + 1]? = some (.cells #[.int .i64 E.op, .int .i64 E.of_, .string E.holder, .int .i64 E.kind, .slice sa E.secs.length sc, .string E.text] 37 (0, 0)) ∧ OwnBook ((wo.alloc (.cells #[.int .i64 cd, .int .i64 R1.n, .slice s1.ao R1.orders.length s1.co, .slice s1.al R1.locked.length s1.cl, .slice s1.ac R1.occ.length s1.cc] 34)).alloc (.cells #[.int .i64 E.op, .int .i64 E.of_, .string E.holder, .int .i64 E.kind, .slice sa E.secs.length sc, .string E.text] 37)) 0 (bookV B0 s0) B0 k0 ∧ OwnBook ((wo.alloc (.cells #[.int .i64 cd, .int .i64 R1.n, .slice s1.ao R1.orders.length s1.co, .slice s1.al R1.locked.length s1.cl, .slice s1.ac R1.occ.length s1.cc] 34)).alloc (.cells #[.int .i64 E.op, .int .i64 E.of_, .string E.holder, .int .i64 E.kind, .slice sa E.secs.length sc, .string E.text] 37)) 0 (bookV R1 s1) R1 k1) := ⟨HO.out.1.trans (Fr.of_below (below2 _ _ _)), ((below2 _ _ _).block _ zP).trans HO.out.2.1, (boxes2 _ _ _ _ _).1, (boxes2 _ _ _ _ _).2, HO.out.2.2.1.below (below2 _ _ _), HO.out.2.2.2.below (below2 _ _ _)⟩
                obtain ⟨Z, hZ⟩ : ∃ Z, Z = ((wo.alloc (.cells #[.int .i64 cd, .int .i64 R1.n, .slice s1.ao R1.orders.length s1.co, .slice s1.al R1.locked.length s1.cl, .slice s1.ac R1.occ.length s1.cc] 34)).alloc (.cells #[.int .i64 E.op, .int .i64 E.of_, .string E.holder, .int .i64 E.kind, .slice sa E.secs.length sc, .string E.text] 37)) := ⟨_, rfl⟩
                rw [← hZ] at HZ ⊢
                clear hZ p0 p1 p2 p3 x0 x1 x2 x3 x4 x5 y0 y1 y2 y3 y4 lb lG zP
                obtain ⟨p0, p1, p2, p3⟩ := box_cells HZ.out.2.1
                obtain ⟨d0, d1, d2, d3, d4⟩ := dcells HZ.out.2.2.1
                obtain ⟨e0, e1, e2, e3, e4, e5⟩ := ev_cells HZ.out.2.2.2.1
                have zP : P < Z.heap.size := (Array.getElem?_eq_some_iff.1 HZ.out.2.1).1
                have zd : wo.heap.size < Z.heap.size := (Array.getElem?_eq_some_iff.1 HZ.out.2.2.1).1
                have ze : wo.heap.size + 1 < Z.heap.size := (Array.getElem?_eq_some_iff.1 HZ.out.2.2.2.1).1
                have fP0 : Z.frozen? ⟨P, 0, none⟩ = false := frozen_of_box HZ.out.2.1
                have fP1 : Z.frozen? ⟨P, 1, none⟩ = false := frozen_of_box HZ.out.2.1
                have fP2 : Z.frozen? ⟨P, 2, none⟩ = false := frozen_of_box HZ.out.2.1
                have fP3 : Z.frozen? ⟨P, 3, none⟩ = false := frozen_of_box HZ.out.2.1
                refine wp_region_held_drew (S := (fun w' => w'.cell? ⟨wo.heap.size + 1, 0, none⟩ = some (.int .i64 E.op) ∧ w'.cell? ⟨wo.heap.size + 1, 1, none⟩ = some (.int .i64 E.of_) ∧ w'.cell? ⟨wo.heap.size, 0, none⟩ = some (.int .i64 cd) ∧ w'.cell? ⟨P, 0, none⟩ = some (.int .i64 B0.n) ∧ w'.cell? ⟨P, 1, none⟩ = some (.slice s0.ao B0.orders.length s0.co) ∧ w'.cell? ⟨P, 2, none⟩ = some (.slice s0.al B0.locked.length s0.cl) ∧ w'.cell? ⟨P, 3, none⟩ = some (.slice s0.ac B0.occ.length s0.cc))) (by kernel_rfl) (by simp [go_sem, e0, e1, d0, p0, p1, p2, p3]) (fun hS0 => ?_)
                refine wpAnyH_take (i := 0) (v := ?_) rfl (by kernel_rfl) (by kernel_rfl) (by kernel_rfl) (fun _ _ _ h => h) (Or.inl ⟨by kernel_rfl, ?_⟩) (by assumption) ?_
                rotate_left 1
                · (intro w hSw; (try dsimp only at hSw); go_simp; try (with_reducible rfl))
                refine wpAnyH_take (i := 1) (v := ?_) rfl (by kernel_rfl) (by kernel_rfl) (by kernel_rfl) (fun _ _ _ h => h) (Or.inl ⟨by kernel_rfl, ?_⟩) (by assumption) ?_
                rotate_left 1
                · (intro w hSw; (try dsimp only at hSw); go_simp; try (with_reducible rfl))
                refine wpAnyH_take (i := 2) (v := ?_) rfl (by kernel_rfl) (by kernel_rfl) (by kernel_rfl) (fun _ _ _ h => h) (Or.inl ⟨by kernel_rfl, ?_⟩) (by assumption) ?_
                rotate_left 1
                · (intro w hSw; (try dsimp only at hSw); go_simp; try (with_reducible rfl))
                refine wpAnyH_take (i := 3) (v := ?_) rfl (by kernel_rfl) (by kernel_rfl) (by kernel_rfl) (fun _ _ _ h => h) (Or.inl ⟨by kernel_rfl, ?_⟩) (by assumption) ?_
                rotate_left 1
                · (intro w hSw; (try dsimp only at hSw); go_simp; try (with_reducible rfl))
                refine wpAnyH_take (i := 4) (v := ?_) rfl (by kernel_rfl) (by kernel_rfl) (by kernel_rfl) (fun _ _ _ h => h) (Or.inl ⟨by kernel_rfl, ?_⟩) (by assumption) ?_
                rotate_left 1
                · (intro w hSw; (try dsimp only at hSw); go_simp; try (with_reducible rfl))
                refine wpAnyH_take (i := 5) (v := ?_) rfl (by kernel_rfl) (by kernel_rfl) (by kernel_rfl) (fun _ _ _ h => h) (Or.inl ⟨by kernel_rfl, ?_⟩) (by assumption) ?_
                rotate_left 1
                · (intro w hSw; (try dsimp only at hSw); go_simp; try (with_reducible rfl))
                refine wpAnyH_take (i := 6) (v := ?_) rfl (by kernel_rfl) (by kernel_rfl) (by kernel_rfl) (fun _ _ _ h => h) (Or.inl ⟨by kernel_rfl, ?_⟩) (by assumption) ?_
                rotate_left 1
                · (intro w hSw; (try dsimp only at hSw); go_simp; try (with_reducible rfl))
                refine wpAnyH_take (i := 7) (v := ?_) rfl (by kernel_rfl) (by kernel_rfl) (by kernel_rfl) (fun _ _ _ h => h) (Or.inl ⟨by kernel_rfl, ?_⟩) (by assumption) ?_
                rotate_left 1
                · (intro w hSw; (try dsimp only at hSw); go_simp; try (with_reducible rfl))
                refine wpAnyH_take (i := 8) (v := ?_) rfl (by kernel_rfl) (by kernel_rfl) (by kernel_rfl) (fun _ _ _ h => h) (Or.inl ⟨by kernel_rfl, ?_⟩) (by assumption) ?_
                rotate_left 1
                · (intro w hSw; (try dsimp only at hSw); go_simp; try (with_reducible rfl))
                refine wpAnyH_take (i := 9) (v := ?_) rfl (by kernel_rfl) (by kernel_rfl) (by kernel_rfl) (fun _ _ _ h => h) (Or.inl ⟨by kernel_rfl, ?_⟩) (by assumption) ?_
                rotate_left 1
                · (intro w hSw; (try dsimp only at hSw); go_simp; try (with_reducible rfl))
                refine wpAnyH_take (i := 10) (v := ?_) rfl (by kernel_rfl) (by kernel_rfl) (by kernel_rfl) (fun _ _ _ h => h) (Or.inl ⟨by kernel_rfl, ?_⟩) (by assumption) ?_
                rotate_left 1
                · (intro w hSw; (try dsimp only at hSw); go_simp; try (with_reducible rfl))
                refine wpAnyH_take (i := 11) (v := ?_) rfl (by kernel_rfl) (by kernel_rfl) (by kernel_rfl) (fun _ _ _ h => h) (Or.inl ⟨by kernel_rfl, ?_⟩) (by assumption) ?_
                rotate_left 1
                · (intro w hSw; (try dsimp only at hSw); go_simp; try (with_reducible rfl))
                refine wpAnyH_take (i := 12) (v := ?_) rfl (by kernel_rfl) (by kernel_rfl) (by kernel_rfl) (fun _ _ _ h => h) (Or.inl ⟨by kernel_rfl, ?_⟩) (by assumption) ?_
                rotate_left 1
                · (intro w hSw; (try dsimp only at hSw); go_simp; try (with_reducible rfl))
                refine wpAnyH_take (i := 13) (v := ?_) rfl (by kernel_rfl) (by kernel_rfl) (by kernel_rfl) (fun _ _ _ h => h) (Or.inl ⟨by kernel_rfl, ?_⟩) (by assumption) ?_
                rotate_left 1
                · (intro w hSw; (try dsimp only at hSw); go_simp; try (with_reducible rfl))
                refine wpAnyH_take (i := 14) (v := ?_) rfl (by kernel_rfl) (by kernel_rfl) (by kernel_rfl) (fun _ _ _ h => h) (Or.inl ⟨by kernel_rfl, ?_⟩) (by assumption) ?_
                rotate_left 1
                · (intro w hSw; (try dsimp only at hSw); go_simp; try (with_reducible rfl))
                refine wpAnyH_take (i := 15) (v := ?_) rfl (by kernel_rfl) (by kernel_rfl) (by kernel_rfl) (fun _ _ _ h => h) (Or.inl ⟨by kernel_rfl, ?_⟩) (by assumption) ?_
                rotate_left 1
                · (intro w hSw; (try dsimp only at hSw); go_simp; try (with_reducible rfl))
                refine wpAnyH_take (i := 16) (v := ?_) rfl (by kernel_rfl) (by kernel_rfl) (by kernel_rfl) (fun _ _ _ h => h) (Or.inl ⟨by kernel_rfl, ?_⟩) (by assumption) ?_
                rotate_left 1
                · (intro w hSw; (try dsimp only at hSw); go_simp; try (with_reducible rfl))
                refine wpAnyH_take (i := 17) (v := ?_) rfl (by kernel_rfl) (by kernel_rfl) (by kernel_rfl) (fun _ _ _ h => h) (Or.inl ⟨by kernel_rfl, ?_⟩) (by assumption) ?_
                rotate_left 1
                · (intro w hSw; (try dsimp only at hSw); go_simp; try (with_reducible rfl))
                refine wpAnyH_take (i := 18) (v := ?_) rfl (by kernel_rfl) (by kernel_rfl) (by kernel_rfl) (fun _ _ _ h => h) (Or.inl ⟨by kernel_rfl, ?_⟩) (by assumption) ?_
                rotate_left 1
                · (intro w hSw; (try dsimp only at hSw); go_simp; try (with_reducible rfl))
                refine wpAnyH_take (i := 19) (v := ?_) rfl (by kernel_rfl) (by kernel_rfl) (by kernel_rfl) (fun _ _ _ h => h) (Or.inl ⟨by kernel_rfl, ?_⟩) (by assumption) ?_
                rotate_left 1
                · (intro w hSw; (try dsimp only at hSw); go_simp; try (with_reducible rfl))
                refine wpAnyH_take (i := 20) (v := undef) rfl (by kernel_rfl) (by kernel_rfl) (by kernel_rfl) (fun _ _ _ h => h) (Or.inr ⟨by kernel_rfl, rfl⟩) (by assumption) ?_
                refine wpAnyH_take (i := 21) (v := undef) rfl (by kernel_rfl) (by kernel_rfl) (by kernel_rfl) (fun _ _ _ h => h) (Or.inr ⟨by kernel_rfl, rfl⟩) (by assumption) ?_
                refine wpAnyH_take (i := 22) (v := undef) rfl (by kernel_rfl) (by kernel_rfl) (by kernel_rfl) (fun _ _ _ h => h) (Or.inr ⟨by kernel_rfl, rfl⟩) (by assumption) ?_
                refine wpAnyH_take (i := 23) (v := undef) rfl (by kernel_rfl) (by kernel_rfl) (by kernel_rfl) (fun _ _ _ h => h) (Or.inr ⟨by kernel_rfl, rfl⟩) (by assumption) ?_
                refine wpAnyH_take (i := 24) (v := undef) rfl (by kernel_rfl) (by kernel_rfl) (by kernel_rfl) (fun _ _ _ h => h) (Or.inr ⟨by kernel_rfl, rfl⟩) (by assumption) ?_
                refine wpAnyH_take (i := 25) (v := undef) rfl (by kernel_rfl) (by kernel_rfl) (by kernel_rfl) (fun _ _ _ h => h) (Or.inr ⟨by kernel_rfl, rfl⟩) (by assumption) ?_
                refine wpAnyH_take (i := 26) (v := undef) rfl (by kernel_rfl) (by kernel_rfl) (by kernel_rfl) (fun _ _ _ h => h) (Or.inr ⟨by kernel_rfl, rfl⟩) (by assumption) ?_
                refine wpAnyH_take (i := 27) (v := undef) rfl (by kernel_rfl) (by kernel_rfl) (by kernel_rfl) (fun _ _ _ h => h) (Or.inr ⟨by kernel_rfl, rfl⟩) (by assumption) ?_
                refine wpAnyH_take (i := 28) (v := undef) rfl (by kernel_rfl) (by kernel_rfl) (by kernel_rfl) (fun _ _ _ h => h) (Or.inr ⟨by kernel_rfl, rfl⟩) (by assumption) ?_
                refine wpAnyH_take (i := 29) (v := ?_) rfl (by kernel_rfl) (by kernel_rfl) (by kernel_rfl) (fun _ _ _ h => h) (Or.inl ⟨by kernel_rfl, ?_⟩) (by assumption) ?_
                rotate_left 1
                · (intro w hSw; (try dsimp only at hSw); go_simp; try (with_reducible rfl))
                refine wpAnyH_done (by kernel_rfl) ?_ _
                go_simp
                have HY : Hid (Fr (fun x => x = P) w3 Z.drew ∧ Z.drew.heap[P]? = some (.cells #[.int .i64 B0.n, .slice s0.ao B0.orders.length s0.co, .slice s0.al B0.locked.length s0.cl, .slice s0.ac B0.occ.length s0.cc] 29 (0, 0)) ∧ Z.drew.heap[wo.heap.size]? = some (.cells #[.int .i64 cd, .int .i64 R1.n, .slice s1.ao R1.orders.length s1.co, .slice s1.al R1.locked.length s1.cl, .slice s1.ac R1.occ.length s1.cc] 34 (0, 0)) ∧ Z.drew.heap[wo.heap.size + 1]? = some (.cells #[.int .i64 E.op, .int .i64 E.of_, .string E.holder, .int .i64 E.kind, .slice sa E.secs.length sc, .string E.text] 37 (0, 0)) ∧ OwnBook Z.drew 0 (bookV B0 s0) B0 k0 ∧ OwnBook Z.drew 0 (bookV R1 s1) R1 k1) := ⟨HZ.out.1.drew', HZ.out.2.1, HZ.out.2.2.1, HZ.out.2.2.2.1, HZ.out.2.2.2.2.1.below (Below.refl _ _).drew, HZ.out.2.2.2.2.2.below (Below.refl _ _).drew⟩
                clear HZ
                obtain ⟨Y, hY⟩ : ∃ Y, Y = Z.drew := ⟨_, rfl⟩
                rw [← hY] at HY ⊢
                clear hY p0 p1 p2 p3 d0 d1 d2 d3 d4 e0 e1 e2 e3 e4 e5 zP zd ze fP0 fP1 fP2 fP3
                obtain ⟨p0, p1, p2, p3⟩ := box_cells HY.out.2.1
                obtain ⟨d0, d1, d2, d3, d4⟩ := dcells HY.out.2.2.1
                obtain ⟨e0, e1, e2, e3, e4, e5⟩ := ev_cells HY.out.2.2.2.1
                have zP : P < Y.heap.size := (Array.getElem?_eq_some_iff.1 HY.out.2.1).1
                have zd : wo.heap.size < Y.heap.size := (Array.getElem?_eq_some_iff.1 HY.out.2.2.1).1
                have ze : wo.heap.size + 1 < Y.heap.size := (Array.getElem?_eq_some_iff.1 HY.out.2.2.2.1).1
                have fP0 : Y.frozen? ⟨P, 0, none⟩ = false := frozen_of_box HY.out.2.1
                have fP1 : Y.frozen? ⟨P, 1, none⟩ = false := frozen_of_box HY.out.2.1
                have fP2 : Y.frozen? ⟨P, 2, none⟩ = false := frozen_of_box HY.out.2.1
                have fP3 : Y.frozen? ⟨P, 3, none⟩ = false := frozen_of_box HY.out.2.1
                go_wp2
                go_roundw
                case rel => exact ⟨k + 1, by omega, by go_num, (HY.out.1).trans (putBook_fr Y P R1 s1), HNX.out _ (putBook_box HY.out.2.1)⟩
                case measure => simp [intOf]; omega
              · have tc1 : (cd == 1) = false := by simpa using l2
                have tc1' : (cd != 1) = true := by simpa using l2
                have HC1 : Hid (¬ cd = 1) := l2
                have l2' : ¬ cd = 1 := l2
                have wfo : (Lit.int .i64 E.of_).wf = true := by simp [Lit.wf, IntKind.min, IntKind.max, IntKind.signed, IntKind.bits]; omega
                clear l2
                by_cases l3 : cd = 0
                · have tc : (cd == 0) = true := by rw [l3]; rfl
                  have HC0 : Hid (cd = 0) := l3
                  clear l3
                  go_upto_region 20 with (fail)
                  have HZ : Hid (Fr (fun x => x = P) w3 ((wo.alloc (.cells #[.int .i64 cd, .int .i64 R1.n, .slice s1.ao R1.orders.length s1.co, .slice s1.al R1.locked.length s1.cl, .slice s1.ac R1.occ.length s1.cc] 34)).alloc (.cells #[.int .i64 E.op, .int .i64 E.of_, .string E.holder, .int .i64 E.kind, .slice sa E.secs.length sc, .string E.text] 37)) ∧ ((wo.alloc (.cells #[.int .i64 cd, .int .i64 R1.n, .slice s1.ao R1.orders.length s1.co, .slice s1.al R1.locked.length s1.cl, .slice s1.ac R1.occ.length s1.cc] 34)).alloc (.cells #[.int .i64 E.op, .int .i64 E.of_, .string E.holder, .int .i64 E.kind, .slice sa E.secs.length sc, .string E.text] 37)).heap[P]? = some (.cells #[.int .i64 B0.n, .slice s0.ao B0.orders.length s0.co, .slice s0.al B0.locked.length s0.cl, .slice s0.ac B0.occ.length s0.cc] 29 (0, 0)) ∧ ((wo.alloc (.cells #[.int .i64 cd, .int .i64 R1.n, .slice s1.ao R1.orders.length s1.co, .slice s1.al R1.locked.length s1.cl, .slice s1.ac R1.occ.length s1.cc] 34)).alloc (.cells #[.int .i64 E.op, .int .i64 E.of_, .string E.holder, .int .i64 E.kind, .slice sa E.secs.length sc, .string E.text] 37)).heap[wo.heap.size]? = some (.cells #[.int .i64 cd, .int .i64 R1.n, .slice s1.ao R1.orders.length s1.co, .slice s1.al R1.locked.length s1.cl, .slice s1.ac R1.occ.length s1.cc] 34 (0, 0)) ∧ ((wo.alloc (.cells #[.int .i64 cd, .int .i64 R1.n, .slice s1.ao R1.orders.length s1.co, .slice s1.al R1.locked.length s1.cl, .slice s1.ac R1.occ.length s1.cc] 34)).alloc (.cells #[.int .i64 E.op, .int .i64 E.of_, .string E.holder, .int .i64 E.kind, .slice sa E.secs.length sc, .string E.text] 37)).heap[wo.heap.size + 1]? = some (.cells #[.int .i64 E.op, .int .i64 E.of_, .string E.holder, .int .i64 E.kind, .slice sa E.secs.length sc, .string E.text] 37 (0, 0)) ∧ OwnBook ((wo.alloc (.cells #[.int .i64 cd, .int .i64 R1.n, .slice s1.ao R1.orders.length s1.co, .slice s1.al R1.locked.length s1.cl, .slice s1.ac R1.occ.length s1.cc] 34)).alloc (.cells #[.int .i64 E.op, .int .i64 E.of_, .string E.holder, .int .i64 E.kind, .slice sa E.secs.length sc, .string E.text] 37)) 0 (bookV B0 s0) B0 k0 ∧ OwnBook ((wo.alloc (.cells #[.int .i64 cd, .int .i64 R1.n, .slice s1.ao R1.orders.length s1.co, .slice s1.al R1.locked.length s1.cl, .slice s1.ac R1.occ.length s1.cc] 34)).alloc (.cells #[.int .i64 E.op, .int .i64 E.of_, .string E.holder, .int .i64 E.kind, .slice sa E.secs.length sc, .string E.text] 37)) 0 (bookV R1 s1) R1 k1) := ⟨HO.out.1.trans (Fr.of_below (below2 _ _ _)), ((below2 _ _ _).block _ zP).trans HO.out.2.1, (boxes2 _ _ _ _ _).1, (boxes2 _ _ _ _ _).2, HO.out.2.2.1.below (below2 _ _ _), HO.out.2.2.2.below (below2 _ _ _)⟩
                  obtain ⟨Z, hZ⟩ : ∃ Z, Z = ((wo.alloc (.cells #[.int .i64 cd, .int .i64 R1.n, .slice s1.ao R1.orders.length s1.co, .slice s1.al R1.locked.length s1.cl, .slice s1.ac R1.occ.length s1.cc] 34)).alloc (.cells #[.int .i64 E.op, .int .i64 E.of_, .string E.holder, .int .i64 E.kind, .slice sa E.secs.length sc, .string E.text] 37)) := ⟨_, rfl⟩
                  rw [← hZ] at HZ ⊢
                  clear hZ p0 p1 p2 p3 x0 x1 x2 x3 x4 x5 y0 y1 y2 y3 y4 lb lG zP
                  obtain ⟨p0, p1, p2, p3⟩ := box_cells HZ.out.2.1
                  obtain ⟨d0, d1, d2, d3, d4⟩ := dcells HZ.out.2.2.1
                  obtain ⟨e0, e1, e2, e3, e4, e5⟩ := ev_cells HZ.out.2.2.2.1
                  have zP : P < Z.heap.size := (Array.getElem?_eq_some_iff.1 HZ.out.2.1).1
                  have zd : wo.heap.size < Z.heap.size := (Array.getElem?_eq_some_iff.1 HZ.out.2.2.1).1
                  have ze : wo.heap.size + 1 < Z.heap.size := (Array.getElem?_eq_some_iff.1 HZ.out.2.2.2.1).1
                  have fP0 : Z.frozen? ⟨P, 0, none⟩ = false := frozen_of_box HZ.out.2.1
                  have fP1 : Z.frozen? ⟨P, 1, none⟩ = false := frozen_of_box HZ.out.2.1
                  have fP2 : Z.frozen? ⟨P, 2, none⟩ = false := frozen_of_box HZ.out.2.1
                  have fP3 : Z.frozen? ⟨P, 3, none⟩ = false := frozen_of_box HZ.out.2.1
                  refine wp_region_held_drew (S := (fun w' => w'.cell? ⟨wo.heap.size + 1, 0, none⟩ = some (.int .i64 E.op) ∧ w'.cell? ⟨wo.heap.size + 1, 1, none⟩ = some (.int .i64 E.of_) ∧ w'.cell? ⟨wo.heap.size, 0, none⟩ = some (.int .i64 cd) ∧ w'.cell? ⟨P, 0, none⟩ = some (.int .i64 B0.n) ∧ w'.cell? ⟨P, 1, none⟩ = some (.slice s0.ao B0.orders.length s0.co) ∧ w'.cell? ⟨P, 2, none⟩ = some (.slice s0.al B0.locked.length s0.cl) ∧ w'.cell? ⟨P, 3, none⟩ = some (.slice s0.ac B0.occ.length s0.cc))) (by kernel_rfl) (by simp [go_sem, e0, e1, d0, p0, p1, p2, p3]) (fun hS0 => ?_)
                  refine wpAnyH_take (i := 0) (v := ?_) rfl (by kernel_rfl) (by kernel_rfl) (by kernel_rfl) (fun _ _ _ h => h) (Or.inl ⟨by kernel_rfl, ?_⟩) (by assumption) ?_
                  rotate_left 1
                  · (intro w hSw; (try dsimp only at hSw); go_simp; try (with_reducible rfl))
                  refine wpAnyH_take (i := 1) (v := ?_) rfl (by kernel_rfl) (by kernel_rfl) (by kernel_rfl) (fun _ _ _ h => h) (Or.inl ⟨by kernel_rfl, ?_⟩) (by assumption) ?_
                  rotate_left 1
                  · (intro w hSw; (try dsimp only at hSw); go_simp; try (with_reducible rfl))
                  refine wpAnyH_take (i := 2) (v := ?_) rfl (by kernel_rfl) (by kernel_rfl) (by kernel_rfl) (fun _ _ _ h => h) (Or.inl ⟨by kernel_rfl, ?_⟩) (by assumption) ?_
                  rotate_left 1
                  · (intro w hSw; (try dsimp only at hSw); go_simp; try (with_reducible rfl))
                  refine wpAnyH_take (i := 3) (v := ?_) rfl (by kernel_rfl) (by kernel_rfl) (by kernel_rfl) (fun _ _ _ h => h) (Or.inl ⟨by kernel_rfl, ?_⟩) (by assumption) ?_
                  rotate_left 1
                  · (intro w hSw; (try dsimp only at hSw); go_simp; try (with_reducible rfl))
                  refine wpAnyH_take (i := 4) (v := ?_) rfl (by kernel_rfl) (by kernel_rfl) (by kernel_rfl) (fun _ _ _ h => h) (Or.inl ⟨by kernel_rfl, ?_⟩) (by assumption) ?_
                  rotate_left 1
                  · (intro w hSw; (try dsimp only at hSw); go_simp; try (with_reducible rfl))
                  refine wpAnyH_take (i := 5) (v := ?_) rfl (by kernel_rfl) (by kernel_rfl) (by kernel_rfl) (fun _ _ _ h => h) (Or.inl ⟨by kernel_rfl, ?_⟩) (by assumption) ?_
                  rotate_left 1
                  · (intro w hSw; (try dsimp only at hSw); go_simp; try (with_reducible rfl))
                  refine wpAnyH_take (i := 6) (v := ?_) rfl (by kernel_rfl) (by kernel_rfl) (by kernel_rfl) (fun _ _ _ h => h) (Or.inl ⟨by kernel_rfl, ?_⟩) (by assumption) ?_
                  rotate_left 1
                  · (intro w hSw; (try dsimp only at hSw); go_simp; try (with_reducible rfl))
                  refine wpAnyH_take (i := 7) (v := ?_) rfl (by kernel_rfl) (by kernel_rfl) (by kernel_rfl) (fun _ _ _ h => h) (Or.inl ⟨by kernel_rfl, ?_⟩) (by assumption) ?_
                  rotate_left 1
                  · (intro w hSw; (try dsimp only at hSw); go_simp; try (with_reducible rfl))
                  refine wpAnyH_take (i := 8) (v := ?_) rfl (by kernel_rfl) (by kernel_rfl) (by kernel_rfl) (fun _ _ _ h => h) (Or.inl ⟨by kernel_rfl, ?_⟩) (by assumption) ?_
                  rotate_left 1
                  · (intro w hSw; (try dsimp only at hSw); go_simp; try (with_reducible rfl))
                  refine wpAnyH_take (i := 9) (v := ?_) rfl (by kernel_rfl) (by kernel_rfl) (by kernel_rfl) (fun _ _ _ h => h) (Or.inl ⟨by kernel_rfl, ?_⟩) (by assumption) ?_
                  rotate_left 1
                  · (intro w hSw; (try dsimp only at hSw); go_simp; try (with_reducible rfl))
                  refine wpAnyH_take (i := 10) (v := ?_) rfl (by kernel_rfl) (by kernel_rfl) (by kernel_rfl) (fun _ _ _ h => h) (Or.inl ⟨by kernel_rfl, ?_⟩) (by assumption) ?_
                  rotate_left 1
                  · (intro w hSw; (try dsimp only at hSw); go_simp; try (with_reducible rfl))
                  refine wpAnyH_take (i := 11) (v := ?_) rfl (by kernel_rfl) (by kernel_rfl) (by kernel_rfl) (fun _ _ _ h => h) (Or.inl ⟨by kernel_rfl, ?_⟩) (by assumption) ?_
                  rotate_left 1
                  · (intro w hSw; (try dsimp only at hSw); go_simp; try (with_reducible rfl))
                  refine wpAnyH_take (i := 12) (v := ?_) rfl (by kernel_rfl) (by kernel_rfl) (by kernel_rfl) (fun _ _ _ h => h) (Or.inl ⟨by kernel_rfl, ?_⟩) (by assumption) ?_
                  rotate_left 1
                  · (intro w hSw; (try dsimp only at hSw); go_simp; try (with_reducible rfl))
                  refine wpAnyH_take (i := 13) (v := ?_) rfl (by kernel_rfl) (by kernel_rfl) (by kernel_rfl) (fun _ _ _ h => h) (Or.inl ⟨by kernel_rfl, ?_⟩) (by assumption) ?_
                  rotate_left 1
                  · (intro w hSw; (try dsimp only at hSw); go_simp; try (with_reducible rfl))
                  refine wpAnyH_take (i := 14) (v := ?_) rfl (by kernel_rfl) (by kernel_rfl) (by kernel_rfl) (fun _ _ _ h => h) (Or.inl ⟨by kernel_rfl, ?_⟩) (by assumption) ?_
                  rotate_left 1
                  · (intro w hSw; (try dsimp only at hSw); go_simp; try (with_reducible rfl))
                  refine wpAnyH_take (i := 15) (v := ?_) rfl (by kernel_rfl) (by kernel_rfl) (by kernel_rfl) (fun _ _ _ h => h) (Or.inl ⟨by kernel_rfl, ?_⟩) (by assumption) ?_
                  rotate_left 1
                  · (intro w hSw; (try dsimp only at hSw); go_simp; try (with_reducible rfl))
                  refine wpAnyH_take (i := 16) (v := ?_) rfl (by kernel_rfl) (by kernel_rfl) (by kernel_rfl) (fun _ _ _ h => h) (Or.inl ⟨by kernel_rfl, ?_⟩) (by assumption) ?_
                  rotate_left 1
                  · (intro w hSw; (try dsimp only at hSw); go_simp; try (with_reducible rfl))
                  refine wpAnyH_take (i := 17) (v := ?_) rfl (by kernel_rfl) (by kernel_rfl) (by kernel_rfl) (fun _ _ _ h => h) (Or.inl ⟨by kernel_rfl, ?_⟩) (by assumption) ?_
                  rotate_left 1
                  · (intro w hSw; (try dsimp only at hSw); go_simp; try (with_reducible rfl))
                  refine wpAnyH_take (i := 18) (v := ?_) rfl (by kernel_rfl) (by kernel_rfl) (by kernel_rfl) (fun _ _ _ h => h) (Or.inl ⟨by kernel_rfl, ?_⟩) (by assumption) ?_
                  rotate_left 1
                  · (intro w hSw; (try dsimp only at hSw); go_simp; try (with_reducible rfl))
                  refine wpAnyH_take (i := 19) (v := ?_) rfl (by kernel_rfl) (by kernel_rfl) (by kernel_rfl) (fun _ _ _ h => h) (Or.inl ⟨by kernel_rfl, ?_⟩) (by assumption) ?_
                  rotate_left 1
                  · (intro w hSw; (try dsimp only at hSw); go_simp; try (with_reducible rfl))
                  refine wpAnyH_take (i := 20) (v := ?_) rfl (by kernel_rfl) (by kernel_rfl) (by kernel_rfl) (fun _ _ _ h => h) (Or.inl ⟨by kernel_rfl, ?_⟩) (by assumption) ?_
                  rotate_left 1
                  · (intro w hSw; (try dsimp only at hSw); go_simp; try (with_reducible rfl))
                  refine wpAnyH_take (i := 21) (v := ?_) rfl (by kernel_rfl) (by kernel_rfl) (by kernel_rfl) (fun _ _ _ h => h) (Or.inl ⟨by kernel_rfl, ?_⟩) (by assumption) ?_
                  rotate_left 1
                  · (intro w hSw; (try dsimp only at hSw); go_simp; try (with_reducible rfl))
                  refine wpAnyH_take (i := 22) (v := ?_) rfl (by kernel_rfl) (by kernel_rfl) (by kernel_rfl) (fun _ _ _ h => h) (Or.inl ⟨by kernel_rfl, ?_⟩) (by assumption) ?_
                  rotate_left 1
                  · (intro w hSw; (try dsimp only at hSw); go_simp; try (with_reducible rfl))
                  refine wpAnyH_take (i := 23) (v := ?_) rfl (by kernel_rfl) (by kernel_rfl) (by kernel_rfl) (fun _ _ _ h => h) (Or.inl ⟨by kernel_rfl, ?_⟩) (by assumption) ?_
                  rotate_left 1
                  · (intro w hSw; (try dsimp only at hSw); go_simp; try (with_reducible rfl))
                  refine wpAnyH_take (i := 24) (v := ?_) rfl (by kernel_rfl) (by kernel_rfl) (by kernel_rfl) (fun _ _ _ h => h) (Or.inl ⟨by kernel_rfl, ?_⟩) (by assumption) ?_
                  rotate_left 1
                  · (intro w hSw; (try dsimp only at hSw); go_simp; try (with_reducible rfl))
                  refine wpAnyH_take (i := 25) (v := ?_) rfl (by kernel_rfl) (by kernel_rfl) (by kernel_rfl) (fun _ _ _ h => h) (Or.inl ⟨by kernel_rfl, ?_⟩) (by assumption) ?_
                  rotate_left 1
                  · (intro w hSw; (try dsimp only at hSw); go_simp; try (with_reducible rfl))
                  refine wpAnyH_ready (rs := [26]) (by kernel_rfl) (by simp) ?_
                  refine AllReadyH.cons rfl (fun Kx hK => ?_) (AllReadyH.nil)
                  go_simp
                  refine (implWho_any _ B0 E.of_ _ HF.out.2.2.1.1 HF.out.2.2.1.2 wfo (HZ.out.2.2.2.2.1.bookAt.below (Below.refl _ _).drew)).mono ?_
                  rintro e w9 ⟨⟨r9, rfl, hr9⟩, hb9⟩
                  have lf : r9 < 0 := by
                    rcases lock_facts HF.out HO6.out HC1.out hr9 with h | h
                    · exact h.2
                    · exact absurd HC0.out h.1
                  have tl : decide (r9 < 0) = true := decide_eq_true lf
                  have HY : Hid (Fr (fun x => x = P) w3 w9 ∧ w9.heap[P]? = some (.cells #[.int .i64 B0.n, .slice s0.ao B0.orders.length s0.co, .slice s0.al B0.locked.length s0.cl, .slice s0.ac B0.occ.length s0.cc] 29 (0, 0)) ∧ w9.heap[wo.heap.size]? = some (.cells #[.int .i64 cd, .int .i64 R1.n, .slice s1.ao R1.orders.length s1.co, .slice s1.al R1.locked.length s1.cl, .slice s1.ac R1.occ.length s1.cc] 34 (0, 0)) ∧ w9.heap[wo.heap.size + 1]? = some (.cells #[.int .i64 E.op, .int .i64 E.of_, .string E.holder, .int .i64 E.kind, .slice sa E.secs.length sc, .string E.text] 37 (0, 0)) ∧ OwnBook w9 0 (bookV B0 s0) B0 k0 ∧ OwnBook w9 0 (bookV R1 s1) R1 k1) := ⟨HZ.out.1.drew'.trans (Fr.of_below hb9), (hb9.block _ zP).trans HZ.out.2.1, (hb9.block _ zd).trans HZ.out.2.2.1, (hb9.block _ ze).trans HZ.out.2.2.2.1, (HZ.out.2.2.2.2.1.below (Below.refl _ _).drew).below hb9, (HZ.out.2.2.2.2.2.below (Below.refl _ _).drew).below hb9⟩
                  clear hr9 hb9 HZ p0 p1 p2 p3 d0 d1 d2 d3 d4 e0 e1 e2 e3 e4 e5 zP zd ze fP0 fP1 fP2 fP3
                  obtain ⟨p0, p1, p2, p3⟩ := box_cells HY.out.2.1
                  obtain ⟨d0, d1, d2, d3, d4⟩ := dcells HY.out.2.2.1
                  obtain ⟨e0, e1, e2, e3, e4, e5⟩ := ev_cells HY.out.2.2.2.1
                  have zP : P < w9.heap.size := (Array.getElem?_eq_some_iff.1 HY.out.2.1).1
                  have zd : wo.heap.size < w9.heap.size := (Array.getElem?_eq_some_iff.1 HY.out.2.2.1).1
                  have ze : wo.heap.size + 1 < w9.heap.size := (Array.getElem?_eq_some_iff.1 HY.out.2.2.2.1).1
                  have fP0 : w9.frozen? ⟨P, 0, none⟩ = false := frozen_of_box HY.out.2.1
                  have fP1 : w9.frozen? ⟨P, 1, none⟩ = false := frozen_of_box HY.out.2.1
                  have fP2 : w9.frozen? ⟨P, 2, none⟩ = false := frozen_of_box HY.out.2.1
                  have fP3 : w9.frozen? ⟨P, 3, none⟩ = false := frozen_of_box HY.out.2.1
                  refine hK.out _ _ ⟨e0, e1, d0, p0, p1, p2, p3⟩ (fun hS1 => ?_)
                  clear hK Kx hS0
                  refine wpAnyH_take (i := 27) (v := ?_) rfl (by kernel_rfl) (by kernel_rfl) (by kernel_rfl) (fun _ _ _ h => h) (Or.inl ⟨by kernel_rfl, ?_⟩) (by assumption) ?_
                  rotate_left 1
                  · (intro w hSw; (try dsimp only at hSw); go_simp; try (with_reducible rfl))
                  refine wpAnyH_take (i := 28) (v := ?_) rfl (by kernel_rfl) (by kernel_rfl) (by kernel_rfl) (fun _ _ _ h => h) (Or.inl ⟨by kernel_rfl, ?_⟩) (by assumption) ?_
                  rotate_left 1
                  · (intro w hSw; (try dsimp only at hSw); go_simp; try (with_reducible rfl))
                  refine wpAnyH_take (i := 29) (v := ?_) rfl (by kernel_rfl) (by kernel_rfl) (by kernel_rfl) (fun _ _ _ h => h) (Or.inl ⟨by kernel_rfl, ?_⟩) (by assumption) ?_
                  rotate_left 1
                  · (intro w hSw; (try dsimp only at hSw); go_simp; try (with_reducible rfl))
                  refine wpAnyH_done (by kernel_rfl) ?_ _
                  go_simp
                  clear p0 p1 p2 p3 d0 d1 d2 d3 d4 e0 e1 e2 e3 e4 e5 zP zd ze fP0 fP1 fP2 fP3
                  obtain ⟨p0, p1, p2, p3⟩ := box_cells HY.out.2.1
                  obtain ⟨d0, d1, d2, d3, d4⟩ := dcells HY.out.2.2.1
                  obtain ⟨e0, e1, e2, e3, e4, e5⟩ := ev_cells HY.out.2.2.2.1
                  have zP : P < w9.heap.size := (Array.getElem?_eq_some_iff.1 HY.out.2.1).1
                  have zd : wo.heap.size < w9.heap.size := (Array.getElem?_eq_some_iff.1 HY.out.2.2.1).1
                  have ze : wo.heap.size + 1 < w9.heap.size := (Array.getElem?_eq_some_iff.1 HY.out.2.2.2.1).1
                  have fP0 : w9.frozen? ⟨P, 0, none⟩ = false := frozen_of_box HY.out.2.1
                  have fP1 : w9.frozen? ⟨P, 1, none⟩ = false := frozen_of_box HY.out.2.1
                  have fP2 : w9.frozen? ⟨P, 2, none⟩ = false := frozen_of_box HY.out.2.1
                  have fP3 : w9.frozen? ⟨P, 3, none⟩ = false := frozen_of_box HY.out.2.1
                  go_wp2
                  go_roundw
                  case rel => exact ⟨k + 1, by omega, by go_num, (HY.out.1).trans (putBook_fr w9 P R1 s1), HNX.out _ (putBook_box HY.out.2.1)⟩
                  case measure => simp [intOf]; omega
                · have tc : (cd == 0) = false := by simpa using l3
                  have HC0 : Hid (¬ cd = 0) := l3
                  clear l3
                  go_upto_region 20 with (fail)
                  have HZ : Hid (Fr (fun x => x = P) w3 ((wo.alloc (.cells #[.int .i64 cd, .int .i64 R1.n, .slice s1.ao R1.orders.length s1.co, .slice s1.al R1.locked.length s1.cl, .slice s1.ac R1.occ.length s1.cc] 34)).alloc (.cells #[.int .i64 E.op, .int .i64 E.of_, .string E.holder, .int .i64 E.kind, .slice sa E.secs.length sc, .string E.text] 37)) ∧ ((wo.alloc (.cells #[.int .i64 cd, .int .i64 R1.n, .slice s1.ao R1.orders.length s1.co, .slice s1.al R1.locked.length s1.cl, .slice s1.ac R1.occ.length s1.cc] 34)).alloc (.cells #[.int .i64 E.op, .int .i64 E.of_, .string E.holder, .int .i64 E.kind, .slice sa E.secs.length sc, .string E.text] 37)).heap[P]? = some (.cells #[.int .i64 B0.n, .slice s0.ao B0.orders.length s0.co, .slice s0.al B0.locked.length s0.cl, .slice s0.ac B0.occ.length s0.cc] 29 (0, 0)) ∧ ((wo.alloc (.cells #[.int .i64 cd, .int .i64 R1.n, .slice s1.ao R1.orders.length s1.co, .slice s1.al R1.locked.length s1.cl, .slice s1.ac R1.occ.length s1.cc] 34)).alloc (.cells #[.int .i64 E.op, .int .i64 E.of_, .string E.holder, .int .i64 E.kind, .slice sa E.secs.length sc, .string E.text] 37)).heap[wo.heap.size]? = some (.cells #[.int .i64 cd, .int .i64 R1.n, .slice s1.ao R1.orders.length s1.co, .slice s1.al R1.locked.length s1.cl, .slice s1.ac R1.occ.length s1.cc] 34 (0, 0)) ∧ ((wo.alloc (.cells #[.int .i64 cd, .int .i64 R1.n, .slice s1.ao R1.orders.length s1.co, .slice s1.al R1.locked.length s1.cl, .slice s1.ac R1.occ.length s1.cc] 34)).alloc (.cells #[.int .i64 E.op, .int .i64 E.of_, .string E.holder, .int .i64 E.kind, .slice sa E.secs.length sc, .string E.text] 37)).heap[wo.heap.size + 1]? = some (.cells #[.int .i64 E.op, .int .i64 E.of_, .string E.holder, .int .i64 E.kind, .slice sa E.secs.length sc, .string E.text] 37 (0, 0)) ∧ OwnBook ((wo.alloc (.cells #[.int .i64 cd, .int .i64 R1.n, .slice s1.ao R1.orders.length s1.co, .slice s1.al R1.locked.length s1.cl, .slice s1.ac R1.occ.length s1.cc] 34)).alloc (.cells #[.int .i64 E.op, .int .i64 E.of_, .string E.holder, .int .i64 E.kind, .slice sa E.secs.length sc, .string E.text] 37)) 0 (bookV B0 s0) B0 k0 ∧ OwnBook ((wo.alloc (.cells #[.int .i64 cd, .int .i64 R1.n, .slice s1.ao R1.orders.length s1.co, .slice s1.al R1.locked.length s1.cl, .slice s1.ac R1.occ.length s1.cc] 34)).alloc (.cells #[.int .i64 E.op, .int .i64 E.of_, .string E.holder, .int .i64 E.kind, .slice sa E.secs.length sc, .string E.text] 37)) 0 (bookV R1 s1) R1 k1) := ⟨HO.out.1.trans (Fr.of_below (below2 _ _ _)), ((below2 _ _ _).block _ zP).trans HO.out.2.1, (boxes2 _ _ _ _ _).1, (boxes2 _ _ _ _ _).2, HO.out.2.2.1.below (below2 _ _ _), HO.out.2.2.2.below (below2 _ _ _)⟩
                  obtain ⟨Z, hZ⟩ : ∃ Z, Z = ((wo.alloc (.cells #[.int .i64 cd, .int .i64 R1.n, .slice s1.ao R1.orders.length s1.co, .slice s1.al R1.locked.length s1.cl, .slice s1.ac R1.occ.length s1.cc] 34)).alloc (.cells #[.int .i64 E.op, .int .i64 E.of_, .string E.holder, .int .i64 E.kind, .slice sa E.secs.length sc, .string E.text] 37)) := ⟨_, rfl⟩
                  rw [← hZ] at HZ ⊢
                  clear hZ p0 p1 p2 p3 x0 x1 x2 x3 x4 x5 y0 y1 y2 y3 y4 lb lG zP
                  obtain ⟨p0, p1, p2, p3⟩ := box_cells HZ.out.2.1
                  obtain ⟨d0, d1, d2, d3, d4⟩ := dcells HZ.out.2.2.1
                  obtain ⟨e0, e1, e2, e3, e4, e5⟩ := ev_cells HZ.out.2.2.2.1
                  have zP : P < Z.heap.size := (Array.getElem?_eq_some_iff.1 HZ.out.2.1).1
                  have zd : wo.heap.size < Z.heap.size := (Array.getElem?_eq_some_iff.1 HZ.out.2.2.1).1
                  have ze : wo.heap.size + 1 < Z.heap.size := (Array.getElem?_eq_some_iff.1 HZ.out.2.2.2.1).1
                  have fP0 : Z.frozen? ⟨P, 0, none⟩ = false := frozen_of_box HZ.out.2.1
                  have fP1 : Z.frozen? ⟨P, 1, none⟩ = false := frozen_of_box HZ.out.2.1
                  have fP2 : Z.frozen? ⟨P, 2, none⟩ = false := frozen_of_box HZ.out.2.1
                  have fP3 : Z.frozen? ⟨P, 3, none⟩ = false := frozen_of_box HZ.out.2.1
                  refine wp_region_held_drew (S := (fun w' => w'.cell? ⟨wo.heap.size + 1, 0, none⟩ = some (.int .i64 E.op) ∧ w'.cell? ⟨wo.heap.size + 1, 1, none⟩ = some (.int .i64 E.of_) ∧ w'.cell? ⟨wo.heap.size, 0, none⟩ = some (.int .i64 cd) ∧ w'.cell? ⟨P, 0, none⟩ = some (.int .i64 B0.n) ∧ w'.cell? ⟨P, 1, none⟩ = some (.slice s0.ao B0.orders.length s0.co) ∧ w'.cell? ⟨P, 2, none⟩ = some (.slice s0.al B0.locked.length s0.cl) ∧ w'.cell? ⟨P, 3, none⟩ = some (.slice s0.ac B0.occ.length s0.cc))) (by kernel_rfl) (by simp [go_sem, e0, e1, d0, p0, p1, p2, p3]) (fun hS0 => ?_)
                  refine wpAnyH_take (i := 0) (v := ?_) rfl (by kernel_rfl) (by kernel_rfl) (by kernel_rfl) (fun _ _ _ h => h) (Or.inl ⟨by kernel_rfl, ?_⟩) (by assumption) ?_
                  rotate_left 1
                  · (intro w hSw; (try dsimp only at hSw); go_simp; try (with_reducible rfl))
                  refine wpAnyH_take (i := 1) (v := ?_) rfl (by kernel_rfl) (by kernel_rfl) (by kernel_rfl) (fun _ _ _ h => h) (Or.inl ⟨by kernel_rfl, ?_⟩) (by assumption) ?_
                  rotate_left 1
                  · (intro w hSw; (try dsimp only at hSw); go_simp; try (with_reducible rfl))
                  refine wpAnyH_take (i := 2) (v := ?_) rfl (by kernel_rfl) (by kernel_rfl) (by kernel_rfl) (fun _ _ _ h => h) (Or.inl ⟨by kernel_rfl, ?_⟩) (by assumption) ?_
                  rotate_left 1
                  · (intro w hSw; (try dsimp only at hSw); go_simp; try (with_reducible rfl))
                  refine wpAnyH_take (i := 3) (v := ?_) rfl (by kernel_rfl) (by kernel_rfl) (by kernel_rfl) (fun _ _ _ h => h) (Or.inl ⟨by kernel_rfl, ?_⟩) (by assumption) ?_
                  rotate_left 1
                  · (intro w hSw; (try dsimp only at hSw); go_simp; try (with_reducible rfl))
                  refine wpAnyH_take (i := 4) (v := ?_) rfl (by kernel_rfl) (by kernel_rfl) (by kernel_rfl) (fun _ _ _ h => h) (Or.inl ⟨by kernel_rfl, ?_⟩) (by assumption) ?_
                  rotate_left 1
                  · (intro w hSw; (try dsimp only at hSw); go_simp; try (with_reducible rfl))
                  refine wpAnyH_take (i := 5) (v := ?_) rfl (by kernel_rfl) (by kernel_rfl) (by kernel_rfl) (fun _ _ _ h => h) (Or.inl ⟨by kernel_rfl, ?_⟩) (by assumption) ?_
                  rotate_left 1
                  · (intro w hSw; (try dsimp only at hSw); go_simp; try (with_reducible rfl))
                  refine wpAnyH_take (i := 6) (v := ?_) rfl (by kernel_rfl) (by kernel_rfl) (by kernel_rfl) (fun _ _ _ h => h) (Or.inl ⟨by kernel_rfl, ?_⟩) (by assumption) ?_
                  rotate_left 1
                  · (intro w hSw; (try dsimp only at hSw); go_simp; try (with_reducible rfl))
                  refine wpAnyH_take (i := 7) (v := ?_) rfl (by kernel_rfl) (by kernel_rfl) (by kernel_rfl) (fun _ _ _ h => h) (Or.inl ⟨by kernel_rfl, ?_⟩) (by assumption) ?_
                  rotate_left 1
                  · (intro w hSw; (try dsimp only at hSw); go_simp; try (with_reducible rfl))
                  refine wpAnyH_take (i := 8) (v := ?_) rfl (by kernel_rfl) (by kernel_rfl) (by kernel_rfl) (fun _ _ _ h => h) (Or.inl ⟨by kernel_rfl, ?_⟩) (by assumption) ?_
                  rotate_left 1
                  · (intro w hSw; (try dsimp only at hSw); go_simp; try (with_reducible rfl))
                  refine wpAnyH_take (i := 9) (v := ?_) rfl (by kernel_rfl) (by kernel_rfl) (by kernel_rfl) (fun _ _ _ h => h) (Or.inl ⟨by kernel_rfl, ?_⟩) (by assumption) ?_
                  rotate_left 1
                  · (intro w hSw; (try dsimp only at hSw); go_simp; try (with_reducible rfl))
                  refine wpAnyH_take (i := 10) (v := ?_) rfl (by kernel_rfl) (by kernel_rfl) (by kernel_rfl) (fun _ _ _ h => h) (Or.inl ⟨by kernel_rfl, ?_⟩) (by assumption) ?_
                  rotate_left 1
                  · (intro w hSw; (try dsimp only at hSw); go_simp; try (with_reducible rfl))
                  refine wpAnyH_take (i := 11) (v := ?_) rfl (by kernel_rfl) (by kernel_rfl) (by kernel_rfl) (fun _ _ _ h => h) (Or.inl ⟨by kernel_rfl, ?_⟩) (by assumption) ?_
                  rotate_left 1
                  · (intro w hSw; (try dsimp only at hSw); go_simp; try (with_reducible rfl))
                  refine wpAnyH_take (i := 12) (v := ?_) rfl (by kernel_rfl) (by kernel_rfl) (by kernel_rfl) (fun _ _ _ h => h) (Or.inl ⟨by kernel_rfl, ?_⟩) (by assumption) ?_
                  rotate_left 1
                  · (intro w hSw; (try dsimp only at hSw); go_simp; try (with_reducible rfl))
                  refine wpAnyH_take (i := 13) (v := ?_) rfl (by kernel_rfl) (by kernel_rfl) (by kernel_rfl) (fun _ _ _ h => h) (Or.inl ⟨by kernel_rfl, ?_⟩) (by assumption) ?_
                  rotate_left 1
                  · (intro w hSw; (try dsimp only at hSw); go_simp; try (with_reducible rfl))
                  refine wpAnyH_take (i := 14) (v := ?_) rfl (by kernel_rfl) (by kernel_rfl) (by kernel_rfl) (fun _ _ _ h => h) (Or.inl ⟨by kernel_rfl, ?_⟩) (by assumption) ?_
                  rotate_left 1
                  · (intro w hSw; (try dsimp only at hSw); go_simp; try (with_reducible rfl))
                  refine wpAnyH_take (i := 15) (v := ?_) rfl (by kernel_rfl) (by kernel_rfl) (by kernel_rfl) (fun _ _ _ h => h) (Or.inl ⟨by kernel_rfl, ?_⟩) (by assumption) ?_
                  rotate_left 1
                  · (intro w hSw; (try dsimp only at hSw); go_simp; try (with_reducible rfl))
                  refine wpAnyH_take (i := 16) (v := ?_) rfl (by kernel_rfl) (by kernel_rfl) (by kernel_rfl) (fun _ _ _ h => h) (Or.inl ⟨by kernel_rfl, ?_⟩) (by assumption) ?_
                  rotate_left 1
                  · (intro w hSw; (try dsimp only at hSw); go_simp; try (with_reducible rfl))
                  refine wpAnyH_take (i := 17) (v := ?_) rfl (by kernel_rfl) (by kernel_rfl) (by kernel_rfl) (fun _ _ _ h => h) (Or.inl ⟨by kernel_rfl, ?_⟩) (by assumption) ?_
                  rotate_left 1
                  · (intro w hSw; (try dsimp only at hSw); go_simp; try (with_reducible rfl))
                  refine wpAnyH_take (i := 18) (v := ?_) rfl (by kernel_rfl) (by kernel_rfl) (by kernel_rfl) (fun _ _ _ h => h) (Or.inl ⟨by kernel_rfl, ?_⟩) (by assumption) ?_
                  rotate_left 1
                  · (intro w hSw; (try dsimp only at hSw); go_simp; try (with_reducible rfl))
                  refine wpAnyH_take (i := 19) (v := ?_) rfl (by kernel_rfl) (by kernel_rfl) (by kernel_rfl) (fun _ _ _ h => h) (Or.inl ⟨by kernel_rfl, ?_⟩) (by assumption) ?_
                  rotate_left 1
                  · (intro w hSw; (try dsimp only at hSw); go_simp; try (with_reducible rfl))
                  refine wpAnyH_take (i := 20) (v := ?_) rfl (by kernel_rfl) (by kernel_rfl) (by kernel_rfl) (fun _ _ _ h => h) (Or.inl ⟨by kernel_rfl, ?_⟩) (by assumption) ?_
                  rotate_left 1
                  · (intro w hSw; (try dsimp only at hSw); go_simp; try (with_reducible rfl))
                  refine wpAnyH_take (i := 21) (v := ?_) rfl (by kernel_rfl) (by kernel_rfl) (by kernel_rfl) (fun _ _ _ h => h) (Or.inl ⟨by kernel_rfl, ?_⟩) (by assumption) ?_
                  rotate_left 1
                  · (intro w hSw; (try dsimp only at hSw); go_simp; try (with_reducible rfl))
                  refine wpAnyH_take (i := 22) (v := ?_) rfl (by kernel_rfl) (by kernel_rfl) (by kernel_rfl) (fun _ _ _ h => h) (Or.inl ⟨by kernel_rfl, ?_⟩) (by assumption) ?_
                  rotate_left 1
                  · (intro w hSw; (try dsimp only at hSw); go_simp; try (with_reducible rfl))
                  refine wpAnyH_take (i := 23) (v := ?_) rfl (by kernel_rfl) (by kernel_rfl) (by kernel_rfl) (fun _ _ _ h => h) (Or.inl ⟨by kernel_rfl, ?_⟩) (by assumption) ?_
                  rotate_left 1
                  · (intro w hSw; (try dsimp only at hSw); go_simp; try (with_reducible rfl))
                  refine wpAnyH_take (i := 24) (v := ?_) rfl (by kernel_rfl) (by kernel_rfl) (by kernel_rfl) (fun _ _ _ h => h) (Or.inl ⟨by kernel_rfl, ?_⟩) (by assumption) ?_
                  rotate_left 1
                  · (intro w hSw; (try dsimp only at hSw); go_simp; try (with_reducible rfl))
                  refine wpAnyH_take (i := 25) (v := ?_) rfl (by kernel_rfl) (by kernel_rfl) (by kernel_rfl) (fun _ _ _ h => h) (Or.inl ⟨by kernel_rfl, ?_⟩) (by assumption) ?_
                  rotate_left 1
                  · (intro w hSw; (try dsimp only at hSw); go_simp; try (with_reducible rfl))
                  refine wpAnyH_ready (rs := [26]) (by kernel_rfl) (by simp) ?_
                  refine AllReadyH.cons rfl (fun Kx hK => ?_) (AllReadyH.nil)
                  go_simp
                  refine (implWho_any _ B0 E.of_ _ HF.out.2.2.1.1 HF.out.2.2.1.2 wfo (HZ.out.2.2.2.2.1.bookAt.below (Below.refl _ _).drew)).mono ?_
                  rintro e w9 ⟨⟨r9, rfl, hr9⟩, hb9⟩
                  have lf : ¬ r9 < 0 := by
                    rcases lock_facts HF.out HO6.out HC1.out hr9 with h | h
                    · exact absurd h.1 HC0.out
                    · exact h.2
                  have tl : decide (r9 < 0) = false := decide_eq_false lf
                  have HY : Hid (Fr (fun x => x = P) w3 w9 ∧ w9.heap[P]? = some (.cells #[.int .i64 B0.n, .slice s0.ao B0.orders.length s0.co, .slice s0.al B0.locked.length s0.cl, .slice s0.ac B0.occ.length s0.cc] 29 (0, 0)) ∧ w9.heap[wo.heap.size]? = some (.cells #[.int .i64 cd, .int .i64 R1.n, .slice s1.ao R1.orders.length s1.co, .slice s1.al R1.locked.length s1.cl, .slice s1.ac R1.occ.length s1.cc] 34 (0, 0)) ∧ w9.heap[wo.heap.size + 1]? = some (.cells #[.int .i64 E.op, .int .i64 E.of_, .string E.holder, .int .i64 E.kind, .slice sa E.secs.length sc, .string E.text] 37 (0, 0)) ∧ OwnBook w9 0 (bookV B0 s0) B0 k0 ∧ OwnBook w9 0 (bookV R1 s1) R1 k1) := ⟨HZ.out.1.drew'.trans (Fr.of_below hb9), (hb9.block _ zP).trans HZ.out.2.1, (hb9.block _ zd).trans HZ.out.2.2.1, (hb9.block _ ze).trans HZ.out.2.2.2.1, (HZ.out.2.2.2.2.1.below (Below.refl _ _).drew).below hb9, (HZ.out.2.2.2.2.2.below (Below.refl _ _).drew).below hb9⟩
                  clear hr9 hb9 HZ p0 p1 p2 p3 d0 d1 d2 d3 d4 e0 e1 e2 e3 e4 e5 zP zd ze fP0 fP1 fP2 fP3
                  obtain ⟨p0, p1, p2, p3⟩ := box_cells HY.out.2.1
                  obtain ⟨d0, d1, d2, d3, d4⟩ := dcells HY.out.2.2.1
                  obtain ⟨e0, e1, e2, e3, e4, e5⟩ := ev_cells HY.out.2.2.2.1
                  have zP : P < w9.heap.size := (Array.getElem?_eq_some_iff.1 HY.out.2.1).1
                  have zd : wo.heap.size < w9.heap.size := (Array.getElem?_eq_some_iff.1 HY.out.2.2.1).1
                  have ze : wo.heap.size + 1 < w9.heap.size := (Array.getElem?_eq_some_iff.1 HY.out.2.2.2.1).1
                  have fP0 : w9.frozen? ⟨P, 0, none⟩ = false := frozen_of_box HY.out.2.1
                  have fP1 : w9.frozen? ⟨P, 1, none⟩ = false := frozen_of_box HY.out.2.1
                  have fP2 : w9.frozen? ⟨P, 2, none⟩ = false := frozen_of_box HY.out.2.1
                  have fP3 : w9.frozen? ⟨P, 3, none⟩ = false := frozen_of_box HY.out.2.1
                  refine hK.out _ _ ⟨e0, e1, d0, p0, p1, p2, p3⟩ (fun hS1 => ?_)
                  clear hK Kx hS0
                  refine wpAnyH_take (i := 27) (v := ?_) rfl (by kernel_rfl) (by kernel_rfl) (by kernel_rfl) (fun _ _ _ h => h) (Or.inl ⟨by kernel_rfl, ?_⟩) (by assumption) ?_
                  rotate_left 1
                  · (intro w hSw; (try dsimp only at hSw); go_simp; try (with_reducible rfl))
                  refine wpAnyH_take (i := 28) (v := ?_) rfl (by kernel_rfl) (by kernel_rfl) (by kernel_rfl) (fun _ _ _ h => h) (Or.inl ⟨by kernel_rfl, ?_⟩) (by assumption) ?_
                  rotate_left 1
                  · (intro w hSw; (try dsimp only at hSw); go_simp; try (with_reducible rfl))
                  refine wpAnyH_take (i := 29) (v := ?_) rfl (by kernel_rfl) (by kernel_rfl) (by kernel_rfl) (fun _ _ _ h => h) (Or.inl ⟨by kernel_rfl, ?_⟩) (by assumption) ?_
                  rotate_left 1
                  · (intro w hSw; (try dsimp only at hSw); go_simp; try (with_reducible rfl))
                  refine wpAnyH_done (by kernel_rfl) ?_ _
                  go_simp
                  clear p0 p1 p2 p3 d0 d1 d2 d3 d4 e0 e1 e2 e3 e4 e5 zP zd ze fP0 fP1 fP2 fP3
                  obtain ⟨p0, p1, p2, p3⟩ := box_cells HY.out.2.1
                  obtain ⟨d0, d1, d2, d3, d4⟩ := dcells HY.out.2.2.1
                  obtain ⟨e0, e1, e2, e3, e4, e5⟩ := ev_cells HY.out.2.2.2.1
                  have zP : P < w9.heap.size := (Array.getElem?_eq_some_iff.1 HY.out.2.1).1
                  have zd : wo.heap.size < w9.heap.size := (Array.getElem?_eq_some_iff.1 HY.out.2.2.1).1
                  have ze : wo.heap.size + 1 < w9.heap.size := (Array.getElem?_eq_some_iff.1 HY.out.2.2.2.1).1
                  have fP0 : w9.frozen? ⟨P, 0, none⟩ = false := frozen_of_box HY.out.2.1
                  have fP1 : w9.frozen? ⟨P, 1, none⟩ = false := frozen_of_box HY.out.2.1
                  have fP2 : w9.frozen? ⟨P, 2, none⟩ = false := frozen_of_box HY.out.2.1
                  have fP3 : w9.frozen? ⟨P, 3, none⟩ = false := frozen_of_box HY.out.2.1
                  go_wp2
                  go_roundw
                  case rel => exact ⟨k + 1, by omega, by go_num, (HY.out.1).trans (putBook_fr w9 P R1 s1), HNX.out _ (putBook_box HY.out.2.1)⟩
                  case measure => simp [intOf]; omega
            · have tl1 : decide (E.of_ < m) = false := decide_eq_false l1
              go_upto_region 20 with (fail)
              have HZ : Hid (Fr (fun x => x = P) w3 ((wo.alloc (.cells #[.int .i64 cd, .int .i64 R1.n, .slice s1.ao R1.orders.length s1.co, .slice s1.al R1.locked.length s1.cl, .slice s1.ac R1.occ.length s1.cc] 34)).alloc (.cells #[.int .i64 E.op, .int .i64 E.of_, .string E.holder, .int .i64 E.kind, .slice sa E.secs.length sc, .string E.text] 37)) ∧ ((wo.alloc (.cells #[.int .i64 cd, .int .i64 R1.n, .slice s1.ao R1.orders.length s1.co, .slice s1.al R1.locked.length s1.cl, .slice s1.ac R1.occ.length s1.cc] 34)).alloc (.cells #[.int .i64 E.op, .int .i64 E.of_, .string E.holder, .int .i64 E.kind, .slice sa E.secs.length sc, .string E.text] 37)).heap[P]? = some (.cells #[.int .i64 B0.n, .slice s0.ao B0.orders.length s0.co, .slice s0.al B0.locked.length s0.cl, .slice s0.ac B0.occ.length s0.cc] 29 (0, 0)) ∧ ((wo.alloc (.cells #[.int .i64 cd, .int .i64 R1.n, .slice s1.ao R1.orders.length s1.co, .slice s1.al R1.locked.length s1.cl, .slice s1.ac R1.occ.length s1.cc] 34)).alloc (.cells #[.int .i64 E.op, .int .i64 E.of_, .string E.holder, .int .i64 E.kind, .slice sa E.secs.length sc, .string E.text] 37)).heap[wo.heap.size]? = some (.cells #[.int .i64 cd, .int .i64 R1.n, .slice s1.ao R1.orders.length s1.co, .slice s1.al R1.locked.length s1.cl, .slice s1.ac R1.occ.length s1.cc] 34 (0, 0)) ∧ ((wo.alloc (.cells #[.int .i64 cd, .int .i64 R1.n, .slice s1.ao R1.orders.length s1.co, .slice s1.al R1.locked.length s1.cl, .slice s1.ac R1.occ.length s1.cc] 34)).alloc (.cells #[.int .i64 E.op, .int .i64 E.of_, .string E.holder, .int .i64 E.kind, .slice sa E.secs.length sc, .string E.text] 37)).heap[wo.heap.size + 1]? = some (.cells #[.int .i64 E.op, .int .i64 E.of_, .string E.holder, .int .i64 E.kind, .slice sa E.secs.length sc, .string E.text] 37 (0, 0)) ∧ OwnBook ((wo.alloc (.cells #[.int .i64 cd, .int .i64 R1.n, .slice s1.ao R1.orders.length s1.co, .slice s1.al R1.locked.length s1.cl, .slice s1.ac R1.occ.length s1.cc] 34)).alloc (.cells #[.int .i64 E.op, .int .i64 E.of_, .string E.holder, .int .i64 E.kind, .slice sa E.secs.length sc, .string E.text] 37)) 0 (bookV B0 s0) B0 k0 ∧ OwnBook ((wo.alloc (.cells #[.int .i64 cd, .int .i64 R1.n, .slice s1.ao R1.orders.length s1.co, .slice s1.al R1.locked.length s1.cl, .slice s1.ac R1.occ.length s1.cc] 34)).alloc (.cells #[.int .i64 E.op, .int .i64 E.of_, .string E.holder, .int .i64 E.kind, .slice sa E.secs.length sc, .string E.text] 37)) 0 (bookV R1 s1) R1 k1) := ⟨HO.out.1.trans (Fr.of_below (below2 _ _ _)), ((below2 _ _ _).block _ zP).trans HO.out.2.1, (boxes2 _ _ _ _ _).1, (boxes2 _ _ _ _ _).2, HO.out.2.2.1.below (below2 _ _ _), HO.out.2.2.2.below (below2 _ _ _)⟩
              obtain ⟨Z, hZ⟩ : ∃ Z, Z = ((wo.alloc (.cells #[.int .i64 cd, .int .i64 R1.n, .slice s1.ao R1.orders.length s1.co, .slice s1.al R1.locked.length s1.cl, .slice s1.ac R1.occ.length s1.cc] 34)).alloc (.cells #[.int .i64 E.op, .int .i64 E.of_, .string E.holder, .int .i64 E.kind, .slice sa E.secs.length sc, .string E.text] 37)) := ⟨_, rfl⟩
              rw [← hZ] at HZ ⊢
              clear hZ p0 p1 p2 p3 x0 x1 x2 x3 x4 x5 y0 y1 y2 y3 y4 lb lG zP
              obtain ⟨p0, p1, p2, p3⟩ := box_cells HZ.out.2.1
              obtain ⟨d0, d1, d2, d3, d4⟩ := dcells HZ.out.2.2.1
              obtain ⟨e0, e1, e2, e3, e4, e5⟩ := ev_cells HZ.out.2.2.2.1
              have zP : P < Z.heap.size := (Array.getElem?_eq_some_iff.1 HZ.out.2.1).1
              have zd : wo.heap.size < Z.heap.size := (Array.getElem?_eq_some_iff.1 HZ.out.2.2.1).1
              have ze : wo.heap.size + 1 < Z.heap.size := (Array.getElem?_eq_some_iff.1 HZ.out.2.2.2.1).1
              have fP0 : Z.frozen? ⟨P, 0, none⟩ = false := frozen_of_box HZ.out.2.1
              have fP1 : Z.frozen? ⟨P, 1, none⟩ = false := frozen_of_box HZ.out.2.1
              have fP2 : Z.frozen? ⟨P, 2, none⟩ = false := frozen_of_box HZ.out.2.1
              have fP3 : Z.frozen? ⟨P, 3, none⟩ = false := frozen_of_box HZ.out.2.1
              refine wp_region_held_drew (S := (fun w' => w'.cell? ⟨wo.heap.size + 1, 0, none⟩ = some (.int .i64 E.op) ∧ w'.cell? ⟨wo.heap.size + 1, 1, none⟩ = some (.int .i64 E.of_) ∧ w'.cell? ⟨wo.heap.size, 0, none⟩ = some (.int .i64 cd) ∧ w'.cell? ⟨P, 0, none⟩ = some (.int .i64 B0.n) ∧ w'.cell? ⟨P, 1, none⟩ = some (.slice s0.ao B0.orders.length s0.co) ∧ w'.cell? ⟨P, 2, none⟩ = some (.slice s0.al B0.locked.length s0.cl) ∧ w'.cell? ⟨P, 3, none⟩ = some (.slice s0.ac B0.occ.length s0.cc))) (by kernel_rfl) (by simp [go_sem, e0, e1, d0, p0, p1, p2, p3]) (fun hS0 => ?_)
              refine wpAnyH_take (i := 0) (v := ?_) rfl (by kernel_rfl) (by kernel_rfl) (by kernel_rfl) (fun _ _ _ h => h) (Or.inl ⟨by kernel_rfl, ?_⟩) (by assumption) ?_
              rotate_left 1
              · (intro w hSw; (try dsimp only at hSw); go_simp; try (with_reducible rfl))
              refine wpAnyH_take (i := 1) (v := ?_) rfl (by kernel_rfl) (by kernel_rfl) (by kernel_rfl) (fun _ _ _ h => h) (Or.inl ⟨by kernel_rfl, ?_⟩) (by assumption) ?_
              rotate_left 1
              · (intro w hSw; (try dsimp only at hSw); go_simp; try (with_reducible rfl))
              refine wpAnyH_take (i := 2) (v := ?_) rfl (by kernel_rfl) (by kernel_rfl) (by kernel_rfl) (fun _ _ _ h => h) (Or.inl ⟨by kernel_rfl, ?_⟩) (by assumption) ?_
              rotate_left 1
              · (intro w hSw; (try dsimp only at hSw); go_simp; try (with_reducible rfl))
              refine wpAnyH_take (i := 3) (v := ?_) rfl (by kernel_rfl) (by kernel_rfl) (by kernel_rfl) (fun _ _ _ h => h) (Or.inl ⟨by kernel_rfl, ?_⟩) (by assumption) ?_
              rotate_left 1
              · (intro w hSw; (try dsimp only at hSw); go_simp; try (with_reducible rfl))
              refine wpAnyH_take (i := 4) (v := ?_) rfl (by kernel_rfl) (by kernel_rfl) (by kernel_rfl) (fun _ _ _ h => h) (Or.inl ⟨by kernel_rfl, ?_⟩) (by assumption) ?_
              rotate_left 1
              · (intro w hSw; (try dsimp only at hSw); go_simp; try (with_reducible rfl))
              refine wpAnyH_take (i := 5) (v := ?_) rfl (by kernel_rfl) (by kernel_rfl) (by kernel_rfl) (fun _ _ _ h => h) (Or.inl ⟨by kernel_rfl, ?_⟩) (by assumption) ?_
              rotate_left 1
              · (intro w hSw; (try dsimp only at hSw); go_simp; try (with_reducible rfl))
              refine wpAnyH_take (i := 6) (v := ?_) rfl (by kernel_rfl) (by kernel_rfl) (by kernel_rfl) (fun _ _ _ h => h) (Or.inl ⟨by kernel_rfl, ?_⟩) (by assumption) ?_
              rotate_left 1
              · (intro w hSw; (try dsimp only at hSw); go_simp; try (with_reducible rfl))
              refine wpAnyH_take (i := 7) (v := ?_) rfl (by kernel_rfl) (by kernel_rfl) (by kernel_rfl) (fun _ _ _ h => h) (Or.inl ⟨by kernel_rfl, ?_⟩) (by assumption) ?_
              rotate_left 1
              · (intro w hSw; (try dsimp only at hSw); go_simp; try (with_reducible rfl))
              refine wpAnyH_take (i := 8) (v := ?_) rfl (by kernel_rfl) (by kernel_rfl) (by kernel_rfl) (fun _ _ _ h => h) (Or.inl ⟨by kernel_rfl, ?_⟩) (by assumption) ?_
              rotate_left 1
              · (intro w hSw; (try dsimp only at hSw); go_simp; try (with_reducible rfl))
              refine wpAnyH_take (i := 9) (v := ?_) rfl (by kernel_rfl) (by kernel_rfl) (by kernel_rfl) (fun _ _ _ h => h) (Or.inl ⟨by kernel_rfl, ?_⟩) (by assumption) ?_
              rotate_left 1
              · (intro w hSw; (try dsimp only at hSw); go_simp; try (with_reducible rfl))
              refine wpAnyH_take (i := 10) (v := ?_) rfl (by kernel_rfl) (by kernel_rfl) (by kernel_rfl) (fun _ _ _ h => h) (Or.inl ⟨by kernel_rfl, ?_⟩) (by assumption) ?_
              rotate_left 1
              · (intro w hSw; (try dsimp only at hSw); go_simp; try (with_reducible rfl))
              refine wpAnyH_take (i := 11) (v := ?_) rfl (by kernel_rfl) (by kernel_rfl) (by kernel_rfl) (fun _ _ _ h => h) (Or.inl ⟨by kernel_rfl, ?_⟩) (by assumption) ?_
              rotate_left 1
              · (intro w hSw; (try dsimp only at hSw); go_simp; try (with_reducible rfl))
              refine wpAnyH_take (i := 12) (v := ?_) rfl (by kernel_rfl) (by kernel_rfl) (by kernel_rfl) (fun _ _ _ h => h) (Or.inl ⟨by kernel_rfl, ?_⟩) (by assumption) ?_
              rotate_left 1
              · (intro w hSw; (try dsimp only at hSw); go_simp; try (with_reducible rfl))
              refine wpAnyH_take (i := 13) (v := ?_) rfl (by kernel_rfl) (by kernel_rfl) (by kernel_rfl) (fun _ _ _ h => h) (Or.inl ⟨by kernel_rfl, ?_⟩) (by assumption) ?_
              rotate_left 1
              · (intro w hSw; (try dsimp only at hSw); go_simp; try (with_reducible rfl))
              refine wpAnyH_take (i := 14) (v := ?_) rfl (by kernel_rfl) (by kernel_rfl) (by kernel_rfl) (fun _ _ _ h => h) (Or.inl ⟨by kernel_rfl, ?_⟩) (by assumption) ?_
              rotate_left 1
              · (intro w hSw; (try dsimp only at hSw); go_simp; try (with_reducible rfl))
              refine wpAnyH_take (i := 15) (v := undef) rfl (by kernel_rfl) (by kernel_rfl) (by kernel_rfl) (fun _ _ _ h => h) (Or.inr ⟨by kernel_rfl, rfl⟩) (by assumption) ?_
              refine wpAnyH_take (i := 16) (v := undef) rfl (by kernel_rfl) (by kernel_rfl) (by kernel_rfl) (fun _ _ _ h => h) (Or.inr ⟨by kernel_rfl, rfl⟩) (by assumption) ?_
              refine wpAnyH_take (i := 17) (v := undef) rfl (by kernel_rfl) (by kernel_rfl) (by kernel_rfl) (fun _ _ _ h => h) (Or.inr ⟨by kernel_rfl, rfl⟩) (by assumption) ?_
              refine wpAnyH_take (i := 18) (v := ?_) rfl (by kernel_rfl) (by kernel_rfl) (by kernel_rfl) (fun _ _ _ h => h) (Or.inl ⟨by kernel_rfl, ?_⟩) (by assumption) ?_
              rotate_left 1
              · (intro w hSw; (try dsimp only at hSw); go_simp; try (with_reducible rfl))
              refine wpAnyH_take (i := 19) (v := ?_) rfl (by kernel_rfl) (by kernel_rfl) (by kernel_rfl) (fun _ _ _ h => h) (Or.inl ⟨by kernel_rfl, ?_⟩) (by assumption) ?_
              rotate_left 1
              · (intro w hSw; (try dsimp only at hSw); go_simp; try (with_reducible rfl))
              refine wpAnyH_take (i := 20) (v := undef) rfl (by kernel_rfl) (by kernel_rfl) (by kernel_rfl) (fun _ _ _ h => h) (Or.inr ⟨by kernel_rfl, rfl⟩) (by assumption) ?_
              refine wpAnyH_take (i := 21) (v := undef) rfl (by kernel_rfl) (by kernel_rfl) (by kernel_rfl) (fun _ _ _ h => h) (Or.inr ⟨by kernel_rfl, rfl⟩) (by assumption) ?_
              refine wpAnyH_take (i := 22) (v := undef) rfl (by kernel_rfl) (by kernel_rfl) (by kernel_rfl) (fun _ _ _ h => h) (Or.inr ⟨by kernel_rfl, rfl⟩) (by assumption) ?_
              refine wpAnyH_take (i := 23) (v := undef) rfl (by kernel_rfl) (by kernel_rfl) (by kernel_rfl) (fun _ _ _ h => h) (Or.inr ⟨by kernel_rfl, rfl⟩) (by assumption) ?_
              refine wpAnyH_take (i := 24) (v := undef) rfl (by kernel_rfl) (by kernel_rfl) (by kernel_rfl) (fun _ _ _ h => h) (Or.inr ⟨by kernel_rfl, rfl⟩) (by assumption) ?_
              refine wpAnyH_take (i := 25) (v := undef) rfl (by kernel_rfl) (by kernel_rfl) (by kernel_rfl) (fun _ _ _ h => h) (Or.inr ⟨by kernel_rfl, rfl⟩) (by assumption) ?_
              refine wpAnyH_take (i := 26) (v := undef) rfl (by kernel_rfl) (by kernel_rfl) (by kernel_rfl) (fun _ _ _ h => h) (Or.inr ⟨by kernel_rfl, rfl⟩) (by assumption) ?_
              refine wpAnyH_take (i := 27) (v := undef) rfl (by kernel_rfl) (by kernel_rfl) (by kernel_rfl) (fun _ _ _ h => h) (Or.inr ⟨by kernel_rfl, rfl⟩) (by assumption) ?_
              refine wpAnyH_take (i := 28) (v := undef) rfl (by kernel_rfl) (by kernel_rfl) (by kernel_rfl) (fun _ _ _ h => h) (Or.inr ⟨by kernel_rfl, rfl⟩) (by assumption) ?_
              refine wpAnyH_take (i := 29) (v := ?_) rfl (by kernel_rfl) (by kernel_rfl) (by kernel_rfl) (fun _ _ _ h => h) (Or.inl ⟨by kernel_rfl, ?_⟩) (by assumption) ?_
              rotate_left 1
              · (intro w hSw; (try dsimp only at hSw); go_simp; try (with_reducible rfl))
              refine wpAnyH_done (by kernel_rfl) ?_ _
              go_simp
              have HY : Hid (Fr (fun x => x = P) w3 Z.drew ∧ Z.drew.heap[P]? = some (.cells #[.int .i64 B0.n, .slice s0.ao B0.orders.length s0.co, .slice s0.al B0.locked.length s0.cl, .slice s0.ac B0.occ.length s0.cc] 29 (0, 0)) ∧ Z.drew.heap[wo.heap.size]? = some (.cells #[.int .i64 cd, .int .i64 R1.n, .slice s1.ao R1.orders.length s1.co, .slice s1.al R1.locked.length s1.cl, .slice s1.ac R1.occ.length s1.cc] 34 (0, 0)) ∧ Z.drew.heap[wo.heap.size + 1]? = some (.cells #[.int .i64 E.op, .int .i64 E.of_, .string E.holder, .int .i64 E.kind, .slice sa E.secs.length sc, .string E.text] 37 (0, 0)) ∧ OwnBook Z.drew 0 (bookV B0 s0) B0 k0 ∧ OwnBook Z.drew 0 (bookV R1 s1) R1 k1) := ⟨HZ.out.1.drew', HZ.out.2.1, HZ.out.2.2.1, HZ.out.2.2.2.1, HZ.out.2.2.2.2.1.below (Below.refl _ _).drew, HZ.out.2.2.2.2.2.below (Below.refl _ _).drew⟩
              clear HZ
              obtain ⟨Y, hY⟩ : ∃ Y, Y = Z.drew := ⟨_, rfl⟩
              rw [← hY] at HY ⊢
              clear hY p0 p1 p2 p3 d0 d1 d2 d3 d4 e0 e1 e2 e3 e4 e5 zP zd ze fP0 fP1 fP2 fP3
              obtain ⟨p0, p1, p2, p3⟩ := box_cells HY.out.2.1
              obtain ⟨d0, d1, d2, d3, d4⟩ := dcells HY.out.2.2.1
              obtain ⟨e0, e1, e2, e3, e4, e5⟩ := ev_cells HY.out.2.2.2.1
              have zP : P < Y.heap.size := (Array.getElem?_eq_some_iff.1 HY.out.2.1).1
              have zd : wo.heap.size < Y.heap.size := (Array.getElem?_eq_some_iff.1 HY.out.2.2.1).1
              have ze : wo.heap.size + 1 < Y.heap.size := (Array.getElem?_eq_some_iff.1 HY.out.2.2.2.1).1
              have fP0 : Y.frozen? ⟨P, 0, none⟩ = false := frozen_of_box HY.out.2.1
              have fP1 : Y.frozen? ⟨P, 1, none⟩ = false := frozen_of_box HY.out.2.1
              have fP2 : Y.frozen? ⟨P, 2, none⟩ = false := frozen_of_box HY.out.2.1
              have fP3 : Y.frozen? ⟨P, 3, none⟩ = false := frozen_of_box HY.out.2.1
              go_wp2
              go_roundw
              case rel => exact ⟨k + 1, by omega, by go_num, (HY.out.1).trans (putBook_fr Y P R1 s1), HNX.out _ (putBook_box HY.out.2.1)⟩
              case measure => simp [intOf]; omega
          · have tl0 : decide (0 ≤ E.of_) = false := decide_eq_false l0
            go_upto_region 20 with (fail)
            have HZ : Hid (Fr (fun x => x = P) w3 ((wo.alloc (.cells #[.int .i64 cd, .int .i64 R1.n, .slice s1.ao R1.orders.length s1.co, .slice s1.al R1.locked.length s1.cl, .slice s1.ac R1.occ.length s1.cc] 34)).alloc (.cells #[.int .i64 E.op, .int .i64 E.of_, .string E.holder, .int .i64 E.kind, .slice sa E.secs.length sc, .string E.text] 37)) ∧ ((wo.alloc (.cells #[.int .i64 cd, .int .i64 R1.n, .slice s1.ao R1.orders.length s1.co, .slice s1.al R1.locked.length s1.cl, .slice s1.ac R1.occ.length s1.cc] 34)).alloc (.cells #[.int .i64 E.op, .int .i64 E.of_, .string E.holder, .int .i64 E.kind, .slice sa E.secs.length sc, .string E.text] 37)).heap[P]? = some (.cells #[.int .i64 B0.n, .slice s0.ao B0.orders.length s0.co, .slice s0.al B0.locked.length s0.cl, .slice s0.ac B0.occ.length s0.cc] 29 (0, 0)) ∧ ((wo.alloc (.cells #[.int .i64 cd, .int .i64 R1.n, .slice s1.ao R1.orders.length s1.co, .slice s1.al R1.locked.length s1.cl, .slice s1.ac R1.occ.length s1.cc] 34)).alloc (.cells #[.int .i64 E.op, .int .i64 E.of_, .string E.holder, .int .i64 E.kind, .slice sa E.secs.length sc, .string E.text] 37)).heap[wo.heap.size]? = some (.cells #[.int .i64 cd, .int .i64 R1.n, .slice s1.ao R1.orders.length s1.co, .slice s1.al R1.locked.length s1.cl, .slice s1.ac R1.occ.length s1.cc] 34 (0, 0)) ∧ ((wo.alloc (.cells #[.int .i64 cd, .int .i64 R1.n, .slice s1.ao R1.orders.length s1.co, .slice s1.al R1.locked.length s1.cl, .slice s1.ac R1.occ.length s1.cc] 34)).alloc (.cells #[.int .i64 E.op, .int .i64 E.of_, .string E.holder, .int .i64 E.kind, .slice sa E.secs.length sc, .string E.text] 37)).heap[wo.heap.size + 1]? = some (.cells #[.int .i64 E.op, .int .i64 E.of_, .string E.holder, .int .i64 E.kind, .slice sa E.secs.length sc, .string E.text] 37 (0, 0)) ∧ OwnBook ((wo.alloc (.cells #[.int .i64 cd, .int .i64 R1.n, .slice s1.ao R1.orders.length s1.co, .slice s1.al R1.locked.length s1.cl, .slice s1.ac R1.occ.length s1.cc] 34)).alloc (.cells #[.int .i64 E.op, .int .i64 E.of_, .string E.holder, .int .i64 E.kind, .slice sa E.secs.length sc, .string E.text] 37)) 0 (bookV B0 s0) B0 k0 ∧ OwnBook ((wo.alloc (.cells #[.int .i64 cd, .int .i64 R1.n, .slice s1.ao R1.orders.length s1.co, .slice s1.al R1.locked.length s1.cl, .slice s1.ac R1.occ.length s1.cc] 34)).alloc (.cells #[.int .i64 E.op, .int .i64 E.of_, .string E.holder, .int .i64 E.kind, .slice sa E.secs.length sc, .string E.text] 37)) 0 (bookV R1 s1) R1 k1) := ⟨HO.out.1.trans (Fr.of_below (below2 _ _ _)), ((below2 _ _ _).block _ zP).trans HO.out.2.1, (boxes2 _ _ _ _ _).1, (boxes2 _ _ _ _ _).2, HO.out.2.2.1.below (below2 _ _ _), HO.out.2.2.2.below (below2 _ _ _)⟩
            obtain ⟨Z, hZ⟩ : ∃ Z, Z = ((wo.alloc (.cells #[.int .i64 cd, .int .i64 R1.n, .slice s1.ao R1.orders.length s1.co, .slice s1.al R1.locked.length s1.cl, .slice s1.ac R1.occ.length s1.cc] 34)).alloc (.cells #[.int .i64 E.op, .int .i64 E.of_, .string E.holder, .int .i64 E.kind, .slice sa E.secs.length sc, .string E.text] 37)) := ⟨_, rfl⟩
            rw [← hZ] at HZ ⊢
            clear hZ p0 p1 p2 p3 x0 x1 x2 x3 x4 x5 y0 y1 y2 y3 y4 lb lG zP
            obtain ⟨p0, p1, p2, p3⟩ := box_cells HZ.out.2.1
            obtain ⟨d0, d1, d2, d3, d4⟩ := dcells HZ.out.2.2.1
            obtain ⟨e0, e1, e2, e3, e4, e5⟩ := ev_cells HZ.out.2.2.2.1
            have zP : P < Z.heap.size := (Array.getElem?_eq_some_iff.1 HZ.out.2.1).1
            have zd : wo.heap.size < Z.heap.size := (Array.getElem?_eq_some_iff.1 HZ.out.2.2.1).1
            have ze : wo.heap.size + 1 < Z.heap.size := (Array.getElem?_eq_some_iff.1 HZ.out.2.2.2.1).1
            have fP0 : Z.frozen? ⟨P, 0, none⟩ = false := frozen_of_box HZ.out.2.1
            have fP1 : Z.frozen? ⟨P, 1, none⟩ = false := frozen_of_box HZ.out.2.1
            have fP2 : Z.frozen? ⟨P, 2, none⟩ = false := frozen_of_box HZ.out.2.1
            have fP3 : Z.frozen? ⟨P, 3, none⟩ = false := frozen_of_box HZ.out.2.1
            refine wp_region_held_drew (S := (fun w' => w'.cell? ⟨wo.heap.size + 1, 0, none⟩ = some (.int .i64 E.op) ∧ w'.cell? ⟨wo.heap.size + 1, 1, none⟩ = some (.int .i64 E.of_) ∧ w'.cell? ⟨wo.heap.size, 0, none⟩ = some (.int .i64 cd) ∧ w'.cell? ⟨P, 0, none⟩ = some (.int .i64 B0.n) ∧ w'.cell? ⟨P, 1, none⟩ = some (.slice s0.ao B0.orders.length s0.co) ∧ w'.cell? ⟨P, 2, none⟩ = some (.slice s0.al B0.locked.length s0.cl) ∧ w'.cell? ⟨P, 3, none⟩ = some (.slice s0.ac B0.occ.length s0.cc))) (by kernel_rfl) (by simp [go_sem, e0, e1, d0, p0, p1, p2, p3]) (fun hS0 => ?_)
            refine wpAnyH_take (i := 0) (v := ?_) rfl (by kernel_rfl) (by kernel_rfl) (by kernel_rfl) (fun _ _ _ h => h) (Or.inl ⟨by kernel_rfl, ?_⟩) (by assumption) ?_
            rotate_left 1
            · (intro w hSw; (try dsimp only at hSw); go_simp; try (with_reducible rfl))
            refine wpAnyH_take (i := 1) (v := ?_) rfl (by kernel_rfl) (by kernel_rfl) (by kernel_rfl) (fun _ _ _ h => h) (Or.inl ⟨by kernel_rfl, ?_⟩) (by assumption) ?_
            rotate_left 1
            · (intro w hSw; (try dsimp only at hSw); go_simp; try (with_reducible rfl))
            refine wpAnyH_take (i := 2) (v := ?_) rfl (by kernel_rfl) (by kernel_rfl) (by kernel_rfl) (fun _ _ _ h => h) (Or.inl ⟨by kernel_rfl, ?_⟩) (by assumption) ?_
            rotate_left 1
            · (intro w hSw; (try dsimp only at hSw); go_simp; try (with_reducible rfl))
            refine wpAnyH_take (i := 3) (v := ?_) rfl (by kernel_rfl) (by kernel_rfl) (by kernel_rfl) (fun _ _ _ h => h) (Or.inl ⟨by kernel_rfl, ?_⟩) (by assumption) ?_
            rotate_left 1
            · (intro w hSw; (try dsimp only at hSw); go_simp; try (with_reducible rfl))
            refine wpAnyH_take (i := 4) (v := ?_) rfl (by kernel_rfl) (by kernel_rfl) (by kernel_rfl) (fun _ _ _ h => h) (Or.inl ⟨by kernel_rfl, ?_⟩) (by assumption) ?_
            rotate_left 1
            · (intro w hSw; (try dsimp only at hSw); go_simp; try (with_reducible rfl))
            refine wpAnyH_take (i := 5) (v := ?_) rfl (by kernel_rfl) (by kernel_rfl) (by kernel_rfl) (fun _ _ _ h => h) (Or.inl ⟨by kernel_rfl, ?_⟩) (by assumption) ?_
            rotate_left 1
            · (intro w hSw; (try dsimp only at hSw); go_simp; try (with_reducible rfl))
            refine wpAnyH_take (i := 6) (v := ?_) rfl (by kernel_rfl) (by kernel_rfl) (by kernel_rfl) (fun _ _ _ h => h) (Or.inl ⟨by kernel_rfl, ?_⟩) (by assumption) ?_
            rotate_left 1
            · (intro w hSw; (try dsimp only at hSw); go_simp; try (with_reducible rfl))
            refine wpAnyH_take (i := 7) (v := ?_) rfl (by kernel_rfl) (by kernel_rfl) (by kernel_rfl) (fun _ _ _ h => h) (Or.inl ⟨by kernel_rfl, ?_⟩) (by assumption) ?_
            rotate_left 1
            · (intro w hSw; (try dsimp only at hSw); go_simp; try (with_reducible rfl))
            refine wpAnyH_take (i := 8) (v := ?_) rfl (by kernel_rfl) (by kernel_rfl) (by kernel_rfl) (fun _ _ _ h => h) (Or.inl ⟨by kernel_rfl, ?_⟩) (by assumption) ?_
            rotate_left 1
            · (intro w hSw; (try dsimp only at hSw); go_simp; try (with_reducible rfl))
            refine wpAnyH_take (i := 9) (v := undef) rfl (by kernel_rfl) (by kernel_rfl) (by kernel_rfl) (fun _ _ _ h => h) (Or.inr ⟨by kernel_rfl, rfl⟩) (by assumption) ?_
            refine wpAnyH_take (i := 10) (v := undef) rfl (by kernel_rfl) (by kernel_rfl) (by kernel_rfl) (fun _ _ _ h => h) (Or.inr ⟨by kernel_rfl, rfl⟩) (by assumption) ?_
            refine wpAnyH_take (i := 11) (v := undef) rfl (by kernel_rfl) (by kernel_rfl) (by kernel_rfl) (fun _ _ _ h => h) (Or.inr ⟨by kernel_rfl, rfl⟩) (by assumption) ?_
            refine wpAnyH_take (i := 12) (v := undef) rfl (by kernel_rfl) (by kernel_rfl) (by kernel_rfl) (fun _ _ _ h => h) (Or.inr ⟨by kernel_rfl, rfl⟩) (by assumption) ?_
            refine wpAnyH_take (i := 13) (v := ?_) rfl (by kernel_rfl) (by kernel_rfl) (by kernel_rfl) (fun _ _ _ h => h) (Or.inl ⟨by kernel_rfl, ?_⟩) (by assumption) ?_
            rotate_left 1
            · (intro w hSw; (try dsimp only at hSw); go_simp; try (with_reducible rfl))
            refine wpAnyH_take (i := 14) (v := ?_) rfl (by kernel_rfl) (by kernel_rfl) (by kernel_rfl) (fun _ _ _ h => h) (Or.inl ⟨by kernel_rfl, ?_⟩) (by assumption) ?_
            rotate_left 1
            · (intro w hSw; (try dsimp only at hSw); go_simp; try (with_reducible rfl))
            refine wpAnyH_take (i := 15) (v := undef) rfl (by kernel_rfl) (by kernel_rfl) (by kernel_rfl) (fun _ _ _ h => h) (Or.inr ⟨by kernel_rfl, rfl⟩) (by assumption) ?_
            refine wpAnyH_take (i := 16) (v := undef) rfl (by kernel_rfl) (by kernel_rfl) (by kernel_rfl) (fun _ _ _ h => h) (Or.inr ⟨by kernel_rfl, rfl⟩) (by assumption) ?_
            refine wpAnyH_take (i := 17) (v := undef) rfl (by kernel_rfl) (by kernel_rfl) (by kernel_rfl) (fun _ _ _ h => h) (Or.inr ⟨by kernel_rfl, rfl⟩) (by assumption) ?_
            refine wpAnyH_take (i := 18) (v := ?_) rfl (by kernel_rfl) (by kernel_rfl) (by kernel_rfl) (fun _ _ _ h => h) (Or.inl ⟨by kernel_rfl, ?_⟩) (by assumption) ?_
            rotate_left 1
            · (intro w hSw; (try dsimp only at hSw); go_simp; try (with_reducible rfl))
            refine wpAnyH_take (i := 19) (v := ?_) rfl (by kernel_rfl) (by kernel_rfl) (by kernel_rfl) (fun _ _ _ h => h) (Or.inl ⟨by kernel_rfl, ?_⟩) (by assumption) ?_
            rotate_left 1
            · (intro w hSw; (try dsimp only at hSw); go_simp; try (with_reducible rfl))
            refine wpAnyH_take (i := 20) (v := undef) rfl (by kernel_rfl) (by kernel_rfl) (by kernel_rfl) (fun _ _ _ h => h) (Or.inr ⟨by kernel_rfl, rfl⟩) (by assumption) ?_
            refine wpAnyH_take (i := 21) (v := undef) rfl (by kernel_rfl) (by kernel_rfl) (by kernel_rfl) (fun _ _ _ h => h) (Or.inr ⟨by kernel_rfl, rfl⟩) (by assumption) ?_
            refine wpAnyH_take (i := 22) (v := undef) rfl (by kernel_rfl) (by kernel_rfl) (by kernel_rfl) (fun _ _ _ h => h) (Or.inr ⟨by kernel_rfl, rfl⟩) (by assumption) ?_
            refine wpAnyH_take (i := 23) (v := undef) rfl (by kernel_rfl) (by kernel_rfl) (by kernel_rfl) (fun _ _ _ h => h) (Or.inr ⟨by kernel_rfl, rfl⟩) (by assumption) ?_
            refine wpAnyH_take (i := 24) (v := undef) rfl (by kernel_rfl) (by kernel_rfl) (by kernel_rfl) (fun _ _ _ h => h) (Or.inr ⟨by kernel_rfl, rfl⟩) (by assumption) ?_
            refine wpAnyH_take (i := 25) (v := undef) rfl (by kernel_rfl) (by kernel_rfl) (by kernel_rfl) (fun _ _ _ h => h) (Or.inr ⟨by kernel_rfl, rfl⟩) (by assumption) ?_
            refine wpAnyH_take (i := 26) (v := undef) rfl (by kernel_rfl) (by kernel_rfl) (by kernel_rfl) (fun _ _ _ h => h) (Or.inr ⟨by kernel_rfl, rfl⟩) (by assumption) ?_
            refine wpAnyH_take (i := 27) (v := undef) rfl (by kernel_rfl) (by kernel_rfl) (by kernel_rfl) (fun _ _ _ h => h) (Or.inr ⟨by kernel_rfl, rfl⟩) (by assumption) ?_
            refine wpAnyH_take (i := 28) (v := undef) rfl (by kernel_rfl) (by kernel_rfl) (by kernel_rfl) (fun _ _ _ h => h) (Or.inr ⟨by kernel_rfl, rfl⟩) (by assumption) ?_
            refine wpAnyH_take (i := 29) (v := ?_) rfl (by kernel_rfl) (by kernel_rfl) (by kernel_rfl) (fun _ _ _ h => h) (Or.inl ⟨by kernel_rfl, ?_⟩) (by assumption) ?_
            rotate_left 1
            · (intro w hSw; (try dsimp only at hSw); go_simp; try (with_reducible rfl))
            refine wpAnyH_done (by kernel_rfl) ?_ _
            go_simp
            have HY : Hid (Fr (fun x => x = P) w3 Z.drew ∧ Z.drew.heap[P]? = some (.cells #[.int .i64 B0.n, .slice s0.ao B0.orders.length s0.co, .slice s0.al B0.locked.length s0.cl, .slice s0.ac B0.occ.length s0.cc] 29 (0, 0)) ∧ Z.drew.heap[wo.heap.size]? = some (.cells #[.int .i64 cd, .int .i64 R1.n, .slice s1.ao R1.orders.length s1.co, .slice s1.al R1.locked.length s1.cl, .slice s1.ac R1.occ.length s1.cc] 34 (0, 0)) ∧ Z.drew.heap[wo.heap.size + 1]? = some (.cells #[.int .i64 E.op, .int .i64 E.of_, .string E.holder, .int .i64 E.kind, .slice sa E.secs.length sc, .string E.text] 37 (0, 0)) ∧ OwnBook Z.drew 0 (bookV B0 s0) B0 k0 ∧ OwnBook Z.drew 0 (bookV R1 s1) R1 k1) := ⟨HZ.out.1.drew', HZ.out.2.1, HZ.out.2.2.1, HZ.out.2.2.2.1, HZ.out.2.2.2.2.1.below (Below.refl _ _).drew, HZ.out.2.2.2.2.2.below (Below.refl _ _).drew⟩
            clear HZ
            obtain ⟨Y, hY⟩ : ∃ Y, Y = Z.drew := ⟨_, rfl⟩
            rw [← hY] at HY ⊢
            clear hY p0 p1 p2 p3 d0 d1 d2 d3 d4 e0 e1 e2 e3 e4 e5 zP zd ze fP0 fP1 fP2 fP3
            obtain ⟨p0, p1, p2, p3⟩ := box_cells HY.out.2.1
            obtain ⟨d0, d1, d2, d3, d4⟩ := dcells HY.out.2.2.1
            obtain ⟨e0, e1, e2, e3, e4, e5⟩ := ev_cells HY.out.2.2.2.1
            have zP : P < Y.heap.size := (Array.getElem?_eq_some_iff.1 HY.out.2.1).1
            have zd : wo.heap.size < Y.heap.size := (Array.getElem?_eq_some_iff.1 HY.out.2.2.1).1
            have ze : wo.heap.size + 1 < Y.heap.size := (Array.getElem?_eq_some_iff.1 HY.out.2.2.2.1).1
            have fP0 : Y.frozen? ⟨P, 0, none⟩ = false := frozen_of_box HY.out.2.1
            have fP1 : Y.frozen? ⟨P, 1, none⟩ = false := frozen_of_box HY.out.2.1
            have fP2 : Y.frozen? ⟨P, 2, none⟩ = false := frozen_of_box HY.out.2.1
            have fP3 : Y.frozen? ⟨P, 3, none⟩ = false := frozen_of_box HY.out.2.1
            go_wp2
            go_roundw
            case rel => exact ⟨k + 1, by omega, by go_num, (HY.out.1).trans (putBook_fr Y P R1 s1), HNX.out _ (putBook_box HY.out.2.1)⟩
            case measure => simp [intOf]; omega
        · have t6 : (E.op == 6) = false := by simpa using g6
          clear g6
          go_upto_region 20 with (fail)
          have HZ : Hid (Fr (fun x => x = P) w3 ((wo.alloc (.cells #[.int .i64 cd, .int .i64 R1.n, .slice s1.ao R1.orders.length s1.co, .slice s1.al R1.locked.length s1.cl, .slice s1.ac R1.occ.length s1.cc] 34)).alloc (.cells #[.int .i64 E.op, .int .i64 E.of_, .string E.holder, .int .i64 E.kind, .slice sa E.secs.length sc, .string E.text] 37)) ∧ ((wo.alloc (.cells #[.int .i64 cd, .int .i64 R1.n, .slice s1.ao R1.orders.length s1.co, .slice s1.al R1.locked.length s1.cl, .slice s1.ac R1.occ.length s1.cc] 34)).alloc (.cells #[.int .i64 E.op, .int .i64 E.of_, .string E.holder, .int .i64 E.kind, .slice sa E.secs.length sc, .string E.text] 37)).heap[P]? = some (.cells #[.int .i64 B0.n, .slice s0.ao B0.orders.length s0.co, .slice s0.al B0.locked.length s0.cl, .slice s0.ac B0.occ.length s0.cc] 29 (0, 0)) ∧ ((wo.alloc (.cells #[.int .i64 cd, .int .i64 R1.n, .slice s1.ao R1.orders.length s1.co, .slice s1.al R1.locked.length s1.cl, .slice s1.ac R1.occ.length s1.cc] 34)).alloc (.cells #[.int .i64 E.op, .int .i64 E.of_, .string E.holder, .int .i64 E.kind, .slice sa E.secs.length sc, .string E.text] 37)).heap[wo.heap.size]? = some (.cells #[.int .i64 cd, .int .i64 R1.n, .slice s1.ao R1.orders.length s1.co, .slice s1.al R1.locked.length s1.cl, .slice s1.ac R1.occ.length s1.cc] 34 (0, 0)) ∧ ((wo.alloc (.cells #[.int .i64 cd, .int .i64 R1.n, .slice s1.ao R1.orders.length s1.co, .slice s1.al R1.locked.length s1.cl, .slice s1.ac R1.occ.length s1.cc] 34)).alloc (.cells #[.int .i64 E.op, .int .i64 E.of_, .string E.holder, .int .i64 E.kind, .slice sa E.secs.length sc, .string E.text] 37)).heap[wo.heap.size + 1]? = some (.cells #[.int .i64 E.op, .int .i64 E.of_, .string E.holder, .int .i64 E.kind, .slice sa E.secs.length sc, .string E.text] 37 (0, 0)) ∧ OwnBook ((wo.alloc (.cells #[.int .i64 cd, .int .i64 R1.n, .slice s1.ao R1.orders.length s1.co, .slice s1.al R1.locked.length s1.cl, .slice s1.ac R1.occ.length s1.cc] 34)).alloc (.cells #[.int .i64 E.op, .int .i64 E.of_, .string E.holder, .int .i64 E.kind, .slice sa E.secs.length sc, .string E.text] 37)) 0 (bookV B0 s0) B0 k0 ∧ OwnBook ((wo.alloc (.cells #[.int .i64 cd, .int .i64 R1.n, .slice s1.ao R1.orders.length s1.co, .slice s1.al R1.locked.length s1.cl, .slice s1.ac R1.occ.length s1.cc] 34)).alloc (.cells #[.int .i64 E.op, .int .i64 E.of_, .string E.holder, .int .i64 E.kind, .slice sa E.secs.length sc, .string E.text] 37)) 0 (bookV R1 s1) R1 k1) := ⟨HO.out.1.trans (Fr.of_below (below2 _ _ _)), ((below2 _ _ _).block _ zP).trans HO.out.2.1, (boxes2 _ _ _ _ _).1, (boxes2 _ _ _ _ _).2, HO.out.2.2.1.below (below2 _ _ _), HO.out.2.2.2.below (below2 _ _ _)⟩
          obtain ⟨Z, hZ⟩ : ∃ Z, Z = ((wo.alloc (.cells #[.int .i64 cd, .int .i64 R1.n, .slice s1.ao R1.orders.length s1.co, .slice s1.al R1.locked.length s1.cl, .slice s1.ac R1.occ.length s1.cc] 34)).alloc (.cells #[.int .i64 E.op, .int .i64 E.of_, .string E.holder, .int .i64 E.kind, .slice sa E.secs.length sc, .string E.text] 37)) := ⟨_, rfl⟩
          rw [← hZ] at HZ ⊢
          clear hZ p0 p1 p2 p3 x0 x1 x2 x3 x4 x5 y0 y1 y2 y3 y4 lb lG zP
          obtain ⟨p0, p1, p2, p3⟩ := box_cells HZ.out.2.1
          obtain ⟨d0, d1, d2, d3, d4⟩ := dcells HZ.out.2.2.1
          obtain ⟨e0, e1, e2, e3, e4, e5⟩ := ev_cells HZ.out.2.2.2.1
          have zP : P < Z.heap.size := (Array.getElem?_eq_some_iff.1 HZ.out.2.1).1
          have zd : wo.heap.size < Z.heap.size := (Array.getElem?_eq_some_iff.1 HZ.out.2.2.1).1
          have ze : wo.heap.size + 1 < Z.heap.size := (Array.getElem?_eq_some_iff.1 HZ.out.2.2.2.1).1
          have fP0 : Z.frozen? ⟨P, 0, none⟩ = false := frozen_of_box HZ.out.2.1
          have fP1 : Z.frozen? ⟨P, 1, none⟩ = false := frozen_of_box HZ.out.2.1
          have fP2 : Z.frozen? ⟨P, 2, none⟩ = false := frozen_of_box HZ.out.2.1
          have fP3 : Z.frozen? ⟨P, 3, none⟩ = false := frozen_of_box HZ.out.2.1
          refine wp_region_held_drew (S := (fun w' => w'.cell? ⟨wo.heap.size + 1, 0, none⟩ = some (.int .i64 E.op) ∧ w'.cell? ⟨wo.heap.size + 1, 1, none⟩ = some (.int .i64 E.of_) ∧ w'.cell? ⟨wo.heap.size, 0, none⟩ = some (.int .i64 cd) ∧ w'.cell? ⟨P, 0, none⟩ = some (.int .i64 B0.n) ∧ w'.cell? ⟨P, 1, none⟩ = some (.slice s0.ao B0.orders.length s0.co) ∧ w'.cell? ⟨P, 2, none⟩ = some (.slice s0.al B0.locked.length s0.cl) ∧ w'.cell? ⟨P, 3, none⟩ = some (.slice s0.ac B0.occ.length s0.cc))) (by kernel_rfl) (by simp [go_sem, e0, e1, d0, p0, p1, p2, p3]) (fun hS0 => ?_)
          refine wpAnyH_take (i := 0) (v := ?_) rfl (by kernel_rfl) (by kernel_rfl) (by kernel_rfl) (fun _ _ _ h => h) (Or.inl ⟨by kernel_rfl, ?_⟩) (by assumption) ?_
          rotate_left 1
          · (intro w hSw; (try dsimp only at hSw); go_simp; try (with_reducible rfl))
          refine wpAnyH_take (i := 1) (v := ?_) rfl (by kernel_rfl) (by kernel_rfl) (by kernel_rfl) (fun _ _ _ h => h) (Or.inl ⟨by kernel_rfl, ?_⟩) (by assumption) ?_
          rotate_left 1
          · (intro w hSw; (try dsimp only at hSw); go_simp; try (with_reducible rfl))
          refine wpAnyH_take (i := 2) (v := ?_) rfl (by kernel_rfl) (by kernel_rfl) (by kernel_rfl) (fun _ _ _ h => h) (Or.inl ⟨by kernel_rfl, ?_⟩) (by assumption) ?_
          rotate_left 1
          · (intro w hSw; (try dsimp only at hSw); go_simp; try (with_reducible rfl))
          refine wpAnyH_take (i := 3) (v := ?_) rfl (by kernel_rfl) (by kernel_rfl) (by kernel_rfl) (fun _ _ _ h => h) (Or.inl ⟨by kernel_rfl, ?_⟩) (by assumption) ?_
          rotate_left 1
          · (intro w hSw; (try dsimp only at hSw); go_simp; try (with_reducible rfl))
          refine wpAnyH_take (i := 4) (v := undef) rfl (by kernel_rfl) (by kernel_rfl) (by kernel_rfl) (fun _ _ _ h => h) (Or.inr ⟨by kernel_rfl, rfl⟩) (by assumption) ?_
          refine wpAnyH_take (i := 5) (v := undef) rfl (by kernel_rfl) (by kernel_rfl) (by kernel_rfl) (fun _ _ _ h => h) (Or.inr ⟨by kernel_rfl, rfl⟩) (by assumption) ?_
          refine wpAnyH_take (i := 6) (v := undef) rfl (by kernel_rfl) (by kernel_rfl) (by kernel_rfl) (fun _ _ _ h => h) (Or.inr ⟨by kernel_rfl, rfl⟩) (by assumption) ?_
          refine wpAnyH_take (i := 7) (v := ?_) rfl (by kernel_rfl) (by kernel_rfl) (by kernel_rfl) (fun _ _ _ h => h) (Or.inl ⟨by kernel_rfl, ?_⟩) (by assumption) ?_
          rotate_left 1
          · (intro w hSw; (try dsimp only at hSw); go_simp; try (with_reducible rfl))
          refine wpAnyH_take (i := 8) (v := ?_) rfl (by kernel_rfl) (by kernel_rfl) (by kernel_rfl) (fun _ _ _ h => h) (Or.inl ⟨by kernel_rfl, ?_⟩) (by assumption) ?_
          rotate_left 1
          · (intro w hSw; (try dsimp only at hSw); go_simp; try (with_reducible rfl))
          refine wpAnyH_take (i := 9) (v := undef) rfl (by kernel_rfl) (by kernel_rfl) (by kernel_rfl) (fun _ _ _ h => h) (Or.inr ⟨by kernel_rfl, rfl⟩) (by assumption) ?_
          refine wpAnyH_take (i := 10) (v := undef) rfl (by kernel_rfl) (by kernel_rfl) (by kernel_rfl) (fun _ _ _ h => h) (Or.inr ⟨by kernel_rfl, rfl⟩) (by assumption) ?_
          refine wpAnyH_take (i := 11) (v := undef) rfl (by kernel_rfl) (by kernel_rfl) (by kernel_rfl) (fun _ _ _ h => h) (Or.inr ⟨by kernel_rfl, rfl⟩) (by assumption) ?_
          refine wpAnyH_take (i := 12) (v := undef) rfl (by kernel_rfl) (by kernel_rfl) (by kernel_rfl) (fun _ _ _ h => h) (Or.inr ⟨by kernel_rfl, rfl⟩) (by assumption) ?_
          refine wpAnyH_take (i := 13) (v := ?_) rfl (by kernel_rfl) (by kernel_rfl) (by kernel_rfl) (fun _ _ _ h => h) (Or.inl ⟨by kernel_rfl, ?_⟩) (by assumption) ?_
          rotate_left 1
          · (intro w hSw; (try dsimp only at hSw); go_simp; try (with_reducible rfl))
          refine wpAnyH_take (i := 14) (v := ?_) rfl (by kernel_rfl) (by kernel_rfl) (by kernel_rfl) (fun _ _ _ h => h) (Or.inl ⟨by kernel_rfl, ?_⟩) (by assumption) ?_
          rotate_left 1
          · (intro w hSw; (try dsimp only at hSw); go_simp; try (with_reducible rfl))
          refine wpAnyH_take (i := 15) (v := undef) rfl (by kernel_rfl) (by kernel_rfl) (by kernel_rfl) (fun _ _ _ h => h) (Or.inr ⟨by kernel_rfl, rfl⟩) (by assumption) ?_
          refine wpAnyH_take (i := 16) (v := undef) rfl (by kernel_rfl) (by kernel_rfl) (by kernel_rfl) (fun _ _ _ h => h) (Or.inr ⟨by kernel_rfl, rfl⟩) (by assumption) ?_
          refine wpAnyH_take (i := 17) (v := undef) rfl (by kernel_rfl) (by kernel_rfl) (by kernel_rfl) (fun _ _ _ h => h) (Or.inr ⟨by kernel_rfl, rfl⟩) (by assumption) ?_
          refine wpAnyH_take (i := 18) (v := ?_) rfl (by kernel_rfl) (by kernel_rfl) (by kernel_rfl) (fun _ _ _ h => h) (Or.inl ⟨by kernel_rfl, ?_⟩) (by assumption) ?_
          rotate_left 1
          · (intro w hSw; (try dsimp only at hSw); go_simp; try (with_reducible rfl))
          refine wpAnyH_take (i := 19) (v := ?_) rfl (by kernel_rfl) (by kernel_rfl) (by kernel_rfl) (fun _ _ _ h => h) (Or.inl ⟨by kernel_rfl, ?_⟩) (by assumption) ?_
          rotate_left 1
          · (intro w hSw; (try dsimp only at hSw); go_simp; try (with_reducible rfl))
          refine wpAnyH_take (i := 20) (v := undef) rfl (by kernel_rfl) (by kernel_rfl) (by kernel_rfl) (fun _ _ _ h => h) (Or.inr ⟨by kernel_rfl, rfl⟩) (by assumption) ?_
          refine wpAnyH_take (i := 21) (v := undef) rfl (by kernel_rfl) (by kernel_rfl) (by kernel_rfl) (fun _ _ _ h => h) (Or.inr ⟨by kernel_rfl, rfl⟩) (by assumption) ?_
          refine wpAnyH_take (i := 22) (v := undef) rfl (by kernel_rfl) (by kernel_rfl) (by kernel_rfl) (fun _ _ _ h => h) (Or.inr ⟨by kernel_rfl, rfl⟩) (by assumption) ?_
          refine wpAnyH_take (i := 23) (v := undef) rfl (by kernel_rfl) (by kernel_rfl) (by kernel_rfl) (fun _ _ _ h => h) (Or.inr ⟨by kernel_rfl, rfl⟩) (by assumption) ?_
          refine wpAnyH_take (i := 24) (v := undef) rfl (by kernel_rfl) (by kernel_rfl) (by kernel_rfl) (fun _ _ _ h => h) (Or.inr ⟨by kernel_rfl, rfl⟩) (by assumption) ?_
          refine wpAnyH_take (i := 25) (v := undef) rfl (by kernel_rfl) (by kernel_rfl) (by kernel_rfl) (fun _ _ _ h => h) (Or.inr ⟨by kernel_rfl, rfl⟩) (by assumption) ?_
          refine wpAnyH_take (i := 26) (v := undef) rfl (by kernel_rfl) (by kernel_rfl) (by kernel_rfl) (fun _ _ _ h => h) (Or.inr ⟨by kernel_rfl, rfl⟩) (by assumption) ?_
          refine wpAnyH_take (i := 27) (v := undef) rfl (by kernel_rfl) (by kernel_rfl) (by kernel_rfl) (fun _ _ _ h => h) (Or.inr ⟨by kernel_rfl, rfl⟩) (by assumption) ?_
          refine wpAnyH_take (i := 28) (v := undef) rfl (by kernel_rfl) (by kernel_rfl) (by kernel_rfl) (fun _ _ _ h => h) (Or.inr ⟨by kernel_rfl, rfl⟩) (by assumption) ?_
          refine wpAnyH_take (i := 29) (v := ?_) rfl (by kernel_rfl) (by kernel_rfl) (by kernel_rfl) (fun _ _ _ h => h) (Or.inl ⟨by kernel_rfl, ?_⟩) (by assumption) ?_
          rotate_left 1
          · (intro w hSw; (try dsimp only at hSw); go_simp; try (with_reducible rfl))
          refine wpAnyH_done (by kernel_rfl) ?_ _
          go_simp
          have HY : Hid (Fr (fun x => x = P) w3 Z.drew ∧ Z.drew.heap[P]? = some (.cells #[.int .i64 B0.n, .slice s0.ao B0.orders.length s0.co, .slice s0.al B0.locked.length s0.cl, .slice s0.ac B0.occ.length s0.cc] 29 (0, 0)) ∧ Z.drew.heap[wo.heap.size]? = some (.cells #[.int .i64 cd, .int .i64 R1.n, .slice s1.ao R1.orders.length s1.co, .slice s1.al R1.locked.length s1.cl, .slice s1.ac R1.occ.length s1.cc] 34 (0, 0)) ∧ Z.drew.heap[wo.heap.size + 1]? = some (.cells #[.int .i64 E.op, .int .i64 E.of_, .string E.holder, .int .i64 E.kind, .slice sa E.secs.length sc, .string E.text] 37 (0, 0)) ∧ OwnBook Z.drew 0 (bookV B0 s0) B0 k0 ∧ OwnBook Z.drew 0 (bookV R1 s1) R1 k1) := ⟨HZ.out.1.drew', HZ.out.2.1, HZ.out.2.2.1, HZ.out.2.2.2.1, HZ.out.2.2.2.2.1.below (Below.refl _ _).drew, HZ.out.2.2.2.2.2.below (Below.refl _ _).drew⟩
          clear HZ
          obtain ⟨Y, hY⟩ : ∃ Y, Y = Z.drew := ⟨_, rfl⟩
          rw [← hY] at HY ⊢
          clear hY p0 p1 p2 p3 d0 d1 d2 d3 d4 e0 e1 e2 e3 e4 e5 zP zd ze fP0 fP1 fP2 fP3
          obtain ⟨p0, p1, p2, p3⟩ := box_cells HY.out.2.1
          obtain ⟨d0, d1, d2, d3, d4⟩ := dcells HY.out.2.2.1
          obtain ⟨e0, e1, e2, e3, e4, e5⟩ := ev_cells HY.out.2.2.2.1
          have zP : P < Y.heap.size := (Array.getElem?_eq_some_iff.1 HY.out.2.1).1
          have zd : wo.heap.size < Y.heap.size := (Array.getElem?_eq_some_iff.1 HY.out.2.2.1).1
          have ze : wo.heap.size + 1 < Y.heap.size := (Array.getElem?_eq_some_iff.1 HY.out.2.2.2.1).1
          have fP0 : Y.frozen? ⟨P, 0, none⟩ = false := frozen_of_box HY.out.2.1
          have fP1 : Y.frozen? ⟨P, 1, none⟩ = false := frozen_of_box HY.out.2.1
          have fP2 : Y.frozen? ⟨P, 2, none⟩ = false := frozen_of_box HY.out.2.1
          have fP3 : Y.frozen? ⟨P, 3, none⟩ = false := frozen_of_box HY.out.2.1
          go_wp2
          go_roundw
          case rel => exact ⟨k + 1, by omega, by go_num, (HY.out.1).trans (putBook_fr Y P R1 s1), HNX.out _ (putBook_box HY.out.2.1)⟩
          case measure => simp [intOf]; omega
    · obtain rfl : k = M := by omega
      have HO : Hid (Fr (fun x => x = P) w3 wr) := hf
      clear hf hbx
      go_wp2
      go_ret
      exact ⟨rfl, HR.out.1.out HO.out⟩

end Go.Proofs.YtfbpkoboccickaaDoor
