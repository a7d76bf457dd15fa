/-
  The law FnAlone: the walk. Mine, by program (wip/lalone.py), by template (wip/gen.py).
-/
import Derived.Test.YteifekoiognhmaaGreatDoorRanZ
import Derived.Test.YteifekoiognhmaaGreatDoorEvZ
import Derived.Test.YteifekoiognhmaaGreatDoorCurZ
namespace Go.Proofs.YteifekoiognhmaaGreatDoor
open Go.RowKit

set_option maxHeartbeats 400000 in
theorem wInts_same (a1 a2 : Option Addr) (c1 c2 n : Nat) (V : Nat → Int) (w : World) (hn : n ≤ 4294967296)
    (G1 : Cells w a1 n (fun i => .int .i64 (V i))) (G2 : Cells w a2 n (fun i => .int .i64 (V i))) :
    Calls Tryz.prog 10 #[.slice a1 n c1, .slice a2 n c2] w fun e w' => e = .returned (.bool true) ∧ Below w.heap.size w w' := by
  obtain ⟨b1, o1, h1, g1⟩ := G1
  obtain ⟨b2, o2, h2, g2⟩ := G2
  go_enter Tryz.func10, Tryz.ntmps10
  go_wp2
  go_loopw [13] (fun i wr => ∃ k : Nat, k ≤ n ∧ i = .int .i64 k ∧ Below w.heap.size w wr) (fun i _ => n - (intOf i).toNat)
  case atStart => exact ⟨0, Nat.zero_le _, rfl, Below.refl _ _⟩
  case round =>
    obtain ⟨k, hk, rfl, hb⟩ := hrel
    by_cases hlt : k < n
    · obtain rfl := h1 (by omega)
      obtain rfl := h2 (by omega)
      have e1 : wr.cell? ⟨b1, o1 + k, none⟩ = some (.int .i64 (V k)) := (hb.cell (p := ⟨b1, o1 + k, none⟩) (World.block_lt_of_cell? _ _ (g1 k hlt))).trans (g1 k hlt)
      have e2 : wr.cell? ⟨b2, o2 + k, none⟩ = some (.int .i64 (V k)) := (hb.cell (p := ⟨b2, o2 + k, none⟩) (World.block_lt_of_cell? _ _ (g2 k hlt))).trans (g2 k hlt)
      have hz : (0 : Int) ≤ (k : Int) := by omega
      have hlz : (k : Int) < (n : Int) := by omega
      clear g1 g2 h1 h2
      go_wp2
      go_quiet (fail)
      go_wp2
      go_roundw
      case rel => exact ⟨k + 1, by omega, by go_num, below_drewN hb _⟩
      case measure => simp [intOf]; omega
    · clear g1 g2 h1 h2
      go_wp2
      go_ret
      exact ⟨rfl, hb⟩

/-- While a book is looked at: the Done's variable, and whose each section is. -/
structure Al (wo wr : World) (DV : Array Value) (mn : Nat) (F : Int → Option Int) : Prop where
  bel : Below wo.heap.size wo wr
  box : wr.heap[wo.heap.size]? = some (.cells DV 39 (0, 0))
  row : wr.rowIs (wo.heap.size + 1) 3 mn (fun j => .int .i64 ((F (j : Int)).getD (-1)))
  z : wo.heap.size + 2 ≤ wr.heap.size

theorem Al.fr {wo wr w' : World} {DV : Array Value} {mn : Nat} {F : Int → Option Int} (h : Al wo wr DV mn F) {S : Nat → Prop} (hf : Fr S wr w') (hS : ∀ x, S x → wo.heap.size + 2 ≤ x) : Al wo w' DV mn F := by
  have hz := h.z
  exact ⟨h.bel.trans (hf.below (by omega) (fun x e => by have := hS x e; omega)), (hf.block _ (by omega) (fun e => by have := hS _ e; omega)).trans h.box, h.row.of_block (hf.block _ (by omega) (fun e => by have := hS _ e; omega)), Nat.le_trans hz hf.size⟩
theorem Al.below {wo wr w' : World} {DV : Array Value} {mn : Nat} {F : Int → Option Int} (h : Al wo wr DV mn F) (hb : Below wr.heap.size wr w') : Al wo w' DV mn F :=
  h.fr (S := fun _ => False) (Fr.of_below hb) (fun _ e => e.elim)
theorem Al.put {wo wr : World} {DV : Array Value} {mn : Nat} {F : Int → Option Int} (h : Al wo wr DV mn F) (s q : Nat) : Al wo (wr.setCell ⟨wo.heap.size + 1, s, none⟩ (.int .i64 (q : Int))) DV mn (fun t => if t = (s : Int) then some (q : Int) else F t) := by
  have hz := h.z
  refine ⟨h.bel.setCell (by show wo.heap.size ≤ wo.heap.size + 1; omega) _, (Deep.blk_setCell_other _ _ _ _ (by simp)).trans h.box, (h.row.set s _).congr (fun j _ => ?_), by simpa [World.setCell] using hz⟩
  by_cases e : j = s
  · subst e; simp
  · rw [if_neg e, if_neg (by omega)]

theorem alone_none {R : Bk} (hR : Right R) {q p : Nat} (hq : q < R.orders.length) (hp : p < (bX R q).secs.length) {F : Int → Option Int} (h : Inv (bX R) q p F) (ho : OpenP (bX R q).state) : F (sV (bX R q) p) = none := by
  cases e : F (sV (bX R q) p) with
  | none => rfl
  | some v =>
    obtain ⟨j, hj, hc⟩ := h.clash ho hp (hR.2.1 q hq).2.2.1 e
    exact absurd hc (hR.2.2.1 q hq j hj)
theorem alone_lock {R : Bk} (hR : Right R) {q p : Nat} (hq : q < R.orders.length) (hp : p < (bX R q).secs.length) (ho : OpenP (bX R q).state) : R.locked.getD (sV (bX R q) p).toNat false = false := by
  cases e : R.locked.getD (sV (bX R q) p).toNat false with
  | false => rfl
  | true => exact absurd ⟨ho, p, hp, e⟩ (hR.2.2.2 q hq)
theorem alone_who {R : Bk} (hR : Right R) {F : Int → Option Int} (h : Inv (bX R) R.orders.length 0 F) {s r : Int} (hw : WhoIs R s r) : r = (F s).getD (-1) := by
  cases e : F s with
  | none => exact hw.det (whoIs_none hR h e)
  | some v => exact hw.det (whoIs_some hR h e)

set_option maxRecDepth 20000 in
set_option maxHeartbeats 16000000 in
theorem fnAlone_walk (A : Nat → Addr) (ad : Option Addr) (c n : Nat) (V : Nat → UInt8) (w : World) (hE : Errs w A) (hT : Lib.TabIs Tryz.prog w "internal/strconv.uint64pow10" .u64 Lib.pow10Tab) (G : BytesAt w ad n V) :
    Calls Tryz.prog 4 #[.slice ad n c] w fun e w' => e = .returned (.bool true) ∧ Below w.heap.size w w' := by
  have HG : Hid (BytesAt w ad n V ∧ Errs w A ∧ Lib.TabIs Tryz.prog w "internal/strconv.uint64pow10" .u64 Lib.pow10Tab) := ⟨G, hE, hT⟩
  clear G hE hT
  obtain ⟨i0, hi, hz0, hz1, hz2⟩ := info_parts Tryz.infoInt
  go_enter Tryz.func4, Tryz.ntmps4
  by_cases hbig : 1048576 < n
  · have t : (1048576 : Int) < (n : Int) := by omega
    go_wp2
    go_ret
    exact ⟨rfl, Below.refl _ _⟩
  have hn : n ≤ 1048576 := by omega
  have tb : ¬ (1048576 : Int) < (n : Int) := by omega
  clear hbig
  go_wp2_with fail
  refine (drawn_any ad n c V w hn HG.out.1).mono ?_
  rintro e w1 ⟨m, adX, N, cX, X, rfl, hm1, hm9, hN, hX, hsm, hb1⟩
  obtain ⟨mn, rfl⟩ := Int.eq_ofNat_of_zero_le (show 0 ≤ m by omega)
  have H1 : Hid (EventsAt w1 adX N X ∧ (∀ i, i < N → SmallO (X i)) ∧ Below w.heap.size w w1) := ⟨hX, hsm, hb1⟩
  clear hX hsm hb1
  go_wp2_with fail
  refine (implRun_any A (mn : Int) adX cX N X _ (HG.out.2.1.below H1.out.2.2) (tab_below HG.out.2.2 H1.out.2.2) (by omega) (fun i hi => ⟨Nat.le_trans (H1.out.2.1 i hi).1 (by decide), Nat.le_trans (H1.out.2.1 i hi).2.1 (by decide), Nat.le_trans (H1.out.2.1 i hi).2.2 (by decide)⟩) H1.out.1).mono ?_
  rintro e w3 ⟨M, adD, cD, GD, sl, KD, hM, rfl, haD, hD, hb3⟩
  obtain rfl : M = N := by
    rcases hM with h | h
    · exact h.2
    · exact absurd ⟨⟨hm1, by omega⟩, by omega⟩ h.1
  have HR : Hid (OwnDones w3 w1.heap.size M (rC (beginBk (mn : Int)) X) (fun i => rB (beginBk (mn : Int)) X (i + 1)) GD sl KD ∧ (0 < M → adD = some ⟨GD, 0, none⟩) ∧ Below w.heap.size w w3) := ⟨hD, haD, below_trans H1.out.2.2 H1.out.2.2.size hb3⟩
  clear haD hD hb3 hM H1 HG
  have hmk := run_make_row' (P := Tryz.prog) 30 3 (.int .i64 0) 8 Tryz.underlying30 Tryz.infoInt rfl .i64 .i64 mn (by omega) (by omega)
  go_wp2
  go_loopw [35] (fun i wr => ∃ k : Nat, k ≤ M ∧ i = .int .i64 k ∧ Below w3.heap.size w3 wr) (fun i _ => M - (intOf i).toNat)
  case atStart => exact ⟨0, Nat.zero_le _, rfl, Below.refl _ _⟩
  case round =>
    obtain ⟨k, hk, rfl, hb⟩ := hrel
    by_cases hlt : k < M
    · skip
      obtain ⟨wo, hwo⟩ : ∃ wo, wo = wr := ⟨_, rfl⟩
      rw [← hwo] at hb ⊢
      clear hwo
      obtain rfl := HR.out.2.1 (by omega)
      have dc := (HR.out.1.below hb).cells hlt
      have ob := ((HR.out.1.own k hlt).below hb).mono (Nat.zero_le _)
      have hR := right_rB (right_begin ⟨hm1, by omega⟩) X (k + 1)
      have hS := small_rB (begin_tiny (mn : Int)).1 (begin_tiny (mn : Int)).2.1 X (k + 1)
      have hnn : (rB (beginBk (mn : Int)) X (k + 1)).n = (mn : Int) := (run_n (k + 1)).trans (begin_n ⟨hm1, by omega⟩)
      try dsimp only at ob
      obtain ⟨R, hRe⟩ : ∃ R, R = rB (beginBk (mn : Int)) X (k + 1) := ⟨_, rfl⟩
      obtain ⟨cd, hcd⟩ : ∃ cd, cd = rC (beginBk (mn : Int)) X k := ⟨_, rfl⟩
      obtain ⟨s1, hs1⟩ : ∃ s1, s1 = sl k := ⟨_, rfl⟩
      obtain ⟨k1, hk1⟩ : ∃ k1, k1 = KD k := ⟨_, rfl⟩
      rw [← hRe, ← hcd, ← hs1] at dc
      rw [← hRe, ← hs1, ← hk1] at ob
      rw [← hRe] at hR hS hnn
      clear hRe hcd hs1 hk1
      obtain ⟨ao1, co1, al1, cl1, ac1, cc1⟩ := s1
      obtain ⟨y0, y1, y2, y3, y4, -⟩ := dc
      try dsimp only at y2 y3 y4
      have lG : GD < wo.heap.size := World.block_lt_of_cell? _ _ y0
      have HO : Hid (Below w3.heap.size w3 wo ∧ OwnBook wo 0 (.agg #[.int .i64 R.n, .slice ao1 R.orders.length co1, .slice al1 R.locked.length cl1, .slice ac1 R.occ.length cc1]) R k1) := ⟨hb, ob⟩
      have HF : Hid (Right R ∧ (R.orders.length ≤ 1048576 ∧ ∀ i, i < R.orders.length → (bX R i).secs.length ≤ 1048576 ∧ (bX R i).holder.size ≤ 1048576) ∧ R.n = (mn : Int)) := ⟨hR, hS, hnn⟩
      have hll : (R.locked.length : Int) = (mn : Int) := hR.1.2.1.trans hnn
      have HLM : Hid (R.locked.length = mn) := (show R.locked.length = mn by omega)
      have tll : ((R.locked.length : Int) == (mn : Int)) = true := by rw [hll]; simp
      have tll' : ((R.locked.length : Int) != (mn : Int)) = false := by rw [hll]; simp
      have hR200 : R.orders.length ≤ 200 := hR.1.2.2.2
      clear hR hS hnn ob hb hll
      go_wp2
      clear hmk
      obtain ⟨W2, hW2, HA2, HW2⟩ : ∃ W2, W2 = ((wo.alloc (.cells #[.int .i64 cd, .int .i64 R.n, .slice ao1 R.orders.length co1, .slice al1 R.locked.length cl1, .slice ac1 R.occ.length cc1] 39)).alloc (.cells (madeCells #[.int .i64 0] mn) 3)) ∧ Hid (Below wo.heap.size wo W2 ∧ W2.heap[wo.heap.size]? = some (.cells #[.int .i64 cd, .int .i64 R.n, .slice ao1 R.orders.length co1, .slice al1 R.locked.length cl1, .slice ac1 R.occ.length cc1] 39 (0, 0)) ∧ wo.heap.size + 2 ≤ W2.heap.size) ∧ Hid (W2.rowIs (wo.heap.size + 1) 3 mn (fun _ => .int .i64 0)) := by
        refine ⟨_, rfl, ⟨below2 _ _ _, (boxes2 _ _ _ _ _).1, by simp⟩, ?_⟩
        have := World.rowIs_made (wo.alloc (.cells #[.int .i64 cd, .int .i64 R.n, .slice ao1 R.orders.length co1, .slice al1 R.locked.length cl1, .slice ac1 R.occ.length cc1] 39)) (.int .i64 0) mn 3
        show World.rowIs _ _ _ _ _
        simpa using this
      rw [← hW2]
      clear hW2 y0 y1 y2 y3 y4
      go_loopw [49] (fun i wr => ∃ q : Nat, q ≤ mn ∧ i = .int .i64 q ∧ (Below wo.heap.size wo wr ∧ wr.heap[wo.heap.size]? = some (.cells #[.int .i64 cd, .int .i64 R.n, .slice ao1 R.orders.length co1, .slice al1 R.locked.length cl1, .slice ac1 R.occ.length cc1] 39 (0, 0)) ∧ wo.heap.size + 2 ≤ wr.heap.size) ∧ wr.rowIs (wo.heap.size + 1) 3 mn (fun j => if j < q then .int .i64 (-1) else .int .i64 0)) (fun i _ => mn - (intOf i).toNat)
      case atStart => exact ⟨0, Nat.zero_le _, rfl, HA2.out, HW2.out.congr (fun j _ => by simp)⟩
      case round =>
        obtain ⟨q, hq, rfl, hA, hrow⟩ := hrel
        clear HA2 HW2
        by_cases hql : q < mn
        · have e2 := hrow.cell hql
          have e3 := hrow.frozen q
          have zq : wo.heap.size + 1 < wr.heap.size := by have := hA.2.2; omega
          have HQ : Hid ((Below wo.heap.size wo wr ∧ wr.heap[wo.heap.size]? = some (.cells #[.int .i64 cd, .int .i64 R.n, .slice ao1 R.orders.length co1, .slice al1 R.locked.length cl1, .slice ac1 R.occ.length cc1] 39 (0, 0)) ∧ wo.heap.size + 2 ≤ wr.heap.size) ∧ wr.rowIs (wo.heap.size + 1) 3 mn (fun j => if j < q then .int .i64 (-1) else .int .i64 0)) := ⟨hA, hrow⟩
          clear hA hrow
          go_wp2
          go_roundw
          case rel =>
            refine ⟨q + 1, by omega, by go_num, ⟨HQ.out.1.1.setCell (by show wo.heap.size ≤ wo.heap.size + 1; omega) _, (Deep.blk_setCell_other _ _ _ _ (by simp)).trans HQ.out.1.2.1, by simpa [World.setCell] using HQ.out.1.2.2⟩, (HQ.out.2.set q _).congr (fun j _ => ?_)⟩
            by_cases ej : j = q
            · subst ej; simp
            · rw [if_neg ej]
              by_cases hj : j < q
              · rw [if_pos hj, if_pos (by omega)]
              · rw [if_neg hj, if_neg (by omega)]
          case measure => simp [intOf]; omega
        · have HAl : Hid (Al wo wr #[.int .i64 cd, .int .i64 R.n, .slice ao1 R.orders.length co1, .slice al1 R.locked.length cl1, .slice ac1 R.occ.length cc1] mn (fun _ => none)) := ⟨hA.1, hA.2.1, hrow.congr (fun j hj => by rw [if_pos (by omega)]; rfl), hA.2.2⟩
          have w4e : Hid True := trivial
          clear hA hrow w4e
          obtain ⟨-, d1, d2, d3, d4⟩ := dcells HAl.out.box
          have zd : wo.heap.size < wr.heap.size := by have := HAl.out.z; omega
          obtain ⟨W3, hW3⟩ : ∃ W3, W3 = wr := ⟨_, rfl⟩
          rw [← hW3] at HAl d1 d2 d3 d4 zd ⊢
          clear hW3
          go_wp2
          clear d1 d2 d3 d4 zd
          go_loopw [10, 60] (fun o i wr => ∃ (q : Nat) (u : Value) (F : Int → Option Int), q ≤ R.orders.length ∧ i = .int .i64 q ∧ o = u ∧ wr.ownsRow (wo.heap.size + 2) 3 1 u (openTo (bX R) q).length ((openTo (bX R) q).map (Value.int .i64)) ∧ Inv (bX R) q 0 F ∧ Al wo wr #[.int .i64 cd, .int .i64 R.n, .slice ao1 R.orders.length co1, .slice al1 R.locked.length cl1, .slice ac1 R.occ.length cc1] mn F) (fun _ i _ => R.orders.length - (intOf i).toNat)
          case atStart => exact ⟨0, _, _, Nat.zero_le _, rfl, rfl, World.ownsRow_nil _ _ _ _, Inv.start _, HAl.out⟩
          case round =>
            obtain ⟨q, u, F, hq, rfl, ho, hown, hinv, hal⟩ := hrel
            obtain rfl := ho.symm
            clear HAl
            by_cases hql : q < R.orders.length
            · skip
              obtain ⟨wq, hwq⟩ : ∃ wq, wq = wr := ⟨_, rfl⟩
              rw [← hwq] at hown hal ⊢
              clear hwq
              have obr := HO.out.2.below hal.bel
              obtain rfl := book_head obr (by omega)
              obtain ⟨⟨c0, c1, c2, c3, c4⟩, -, -⟩ := ord_facts obr hql
              obtain ⟨sa, hsa⟩ : ∃ x, x = k1.sa q := ⟨_, rfl⟩
              obtain ⟨sc, hsc⟩ : ∃ x, x = k1.sc q := ⟨_, rfl⟩
              rw [← hsa, ← hsc] at c2
              rw [← hsa] at c4
              have HSA : Hid (sa = k1.sa q) := hsa
              clear hsa hsc
              have lk : k1.G < wq.heap.size := World.block_lt_of_cell? _ _ c0
              have q1 : (q : Int) < (R.orders.length : Int) := by omega
              have HQ : Hid (wq.ownsRow (wo.heap.size + 2) 3 1 u (openTo (bX R) q).length ((openTo (bX R) q).map (Value.int .i64)) ∧ Inv (bX R) q 0 F ∧ Al wo wq #[.int .i64 cd, .int .i64 R.n, .slice (some ⟨k1.G, 0, none⟩) R.orders.length co1, .slice al1 R.locked.length cl1, .slice ac1 R.occ.length cc1] mn F ∧ Cells wq sa (bX R q).secs.length (iV (bX R q).secs)) := ⟨hown, hinv, hal, c4⟩
              clear hown hinv hal c4 obr
              by_cases hop : OpenP (bX R q).state
              · have HOP : Hid (OpenP (bX R q).state) := hop
                rcases hop with hst | hst
                · have t2 : ((bX R q).state == 2) = true := by rw [hst]; rfl
                  have t2' : ((bX R q).state != 2) = false := by rw [hst]; rfl
                  clear hst
                  have hz3 : wo.heap.size + 2 ≤ wq.heap.size := HQ.out.2.2.1.z
                  have hol : (openTo (bX R) q).length ≤ q := openTo_le _ _
                  obtain ⟨gL, adL, cpL, rfl, -⟩ := ownL_of HQ.out.1
                  go_wp2_with (at_builtin; refine stand ?_)
                  refine Stand.go ?_
                  have n4 : ∀ j u', [Value.int .i64 (q : Int)][j]? = some u' → ((wq.alloc (.cells #[.string (bX R q).holder, .int .i64 (bX R q).kind, .slice sa (bX R q).secs.length sc, .int .i64 (bX R q).state] 41)).alloc (.cells #[.int .i64 (q : Int)] 3)).cell? ((⟨wq.heap.size + 1, 0, none⟩ : Addr).add j) = some u' := by
                    intro j u' hu
                    rw [add0]
                    refine cell_of_box (boxes2 _ _ _ _ _).2 ?_
                    rw [← Array.getElem?_toList]
                    exact hu
                  refine wpList_append_own_at _ rfl _ _ 30 rfl (wo.heap.size + 2) 3 i0 (.int .i64 0) 1 8 Tryz.underlying30 hi hz0 hz1 hz2 rfl (by decide) (.slice adL (openTo (bX R) q).length cpL) (openTo (bX R) q).length ((openTo (bX R) q).map (Value.int .i64)) rfl (ownsRow_below HQ.out.1 (below2 _ _ _)) ⟨wq.heap.size + 1, 0, none⟩ 1 1 [.int .i64 (q : Int)] rfl rfl n4 (ints_oneCell .i64 [(q : Int)]) (by unfold maxLen; omega) (by omega) (by simp; omega) ?_
                  intro v5 w5 hown5 hgrow5 _ _
                  clear n4
                  have s4 : ((wq.alloc (.cells #[.string (bX R q).holder, .int .i64 (bX R q).kind, .slice sa (bX R q).secs.length sc, .int .i64 (bX R q).state] 41)).alloc (.cells #[.int .i64 (q : Int)] 3)).heap.size = wq.heap.size + 2 := by simp
                  have f5 : Fr (fun x => (Value.slice adL (openTo (bX R) q).length cpL).ownBlock = some x) ((wq.alloc (.cells #[.string (bX R q).holder, .int .i64 (bX R q).kind, .slice sa (bX R q).secs.length sc, .int .i64 (bX R q).state] 41)).alloc (.cells #[.int .i64 (q : Int)] 3)) w5 := ⟨hgrow5.os, hgrow5.tape, hgrow5.output, hgrow5.size, fun j hj hn' => hgrow5.block j hj (fun e => hn' e.symm)⟩
                  have A5 : Al wo w5 #[.int .i64 cd, .int .i64 R.n, .slice (some ⟨k1.G, 0, none⟩) R.orders.length co1, .slice al1 R.locked.length cl1, .slice ac1 R.occ.length cc1] mn F := (HQ.out.2.2.1.below (below2 _ _ _)).fr f5 (fun x e => ownBlock_low HQ.out.1 e)
                  have x5 : w5.heap[wq.heap.size]? = some (.cells #[.string (bX R q).holder, .int .i64 (bX R q).kind, .slice sa (bX R q).secs.length sc, .int .i64 (bX R q).state] 41 (0, 0)) := (f5.block _ (by omega) (fun e => by have := (owns_lt HQ.out.1 e).2; omega)).trans (boxes2 _ _ _ _ _).1
                  have h5 : w5.ownsRow (wo.heap.size + 2) 3 1 v5 (openTo (bX R) (q + 1)).length ((openTo (bX R) (q + 1)).map (Value.int .i64)) := by
                    rw [openTo_yes HOP.out]
                    simpa using hown5
                  have z5 : wq.heap.size < w5.heap.size := (Array.getElem?_eq_some_iff.1 x5).1
                  have H5 : Hid (Al wo w5 #[.int .i64 cd, .int .i64 R.n, .slice (some ⟨k1.G, 0, none⟩) R.orders.length co1, .slice al1 R.locked.length cl1, .slice ac1 R.occ.length cc1] mn F ∧ w5.heap[wq.heap.size]? = some (.cells #[.string (bX R q).holder, .int .i64 (bX R q).kind, .slice sa (bX R q).secs.length sc, .int .i64 (bX R q).state] 41 (0, 0)) ∧ w5.ownsRow (wo.heap.size + 2) 3 1 v5 (openTo (bX R) (q + 1)).length ((openTo (bX R) (q + 1)).map (Value.int .i64))) := ⟨A5, x5, h5⟩
                  have HI : Hid (Inv (bX R) q 0 F) := HQ.out.2.1
                  obtain ⟨o0, o1, o2, o3⟩ := box_cells x5
                  clear hown5 hgrow5 f5 A5 x5 h5 s4 HQ c0 c1 c2 c3 lk
                  go_wp2
                  clear o0 o1 o2 o3
                  go_loopw [80] (fun i wr => ∃ (p : Nat) (F' : Int → Option Int), p ≤ (bX R q).secs.length ∧ i = .int .i64 p ∧ Inv (bX R) q p F' ∧ Al wo wr #[.int .i64 cd, .int .i64 R.n, .slice (some ⟨k1.G, 0, none⟩) R.orders.length co1, .slice al1 R.locked.length cl1, .slice ac1 R.occ.length cc1] mn F' ∧ wr.heap[wq.heap.size]? = some (.cells #[.string (bX R q).holder, .int .i64 (bX R q).kind, .slice sa (bX R q).secs.length sc, .int .i64 (bX R q).state] 41 (0, 0)) ∧ wr.ownsRow (wo.heap.size + 2) 3 1 v5 (openTo (bX R) (q + 1)).length ((openTo (bX R) (q + 1)).map (Value.int .i64))) (fun i _ => (bX R q).secs.length - (intOf i).toNat)
                  case atStart => exact ⟨0, F, Nat.zero_le _, rfl, HI.out, H5.out⟩
                  case round =>
                    obtain ⟨p, F', hp, rfl, hinv, hal, hxo, hov⟩ := hrel
                    clear H5 HI
                    by_cases hpl : p < (bX R q).secs.length
                    · have obr := HO.out.2.below hal.bel
                      obtain ⟨⟨-, -, -, -, c4⟩, -, -⟩ := ord_facts obr hql
                      have lok := (HF.out.1.2.1 q hql).2.2.1
                      have l1 := lok.1 p hpl
                      have hlim := HF.out.2.2
                      obtain ⟨sn, hsn⟩ : ∃ sn : Nat, (bX R q).secs.getD p 0 = (sn : Int) := ⟨((bX R q).secs.getD p 0).toNat, by have : sV (bX R q) p = (bX R q).secs.getD p 0 := rfl; omega⟩
                      have hsV : sV (bX R q) p = (sn : Int) := hsn
                      have hsm : sn < mn := by omega
                      have hno := alone_none HF.out.1 hql hpl hinv HOP.out
                      have hlk := alone_lock HF.out.1 hql hpl HOP.out
                      have hst := hinv.store HOP.out hno
                      rw [hsV] at hno hlk hst
                      have hlk2 : R.locked.getD sn false = false := by simpa using hlk
                      rw [← HSA.out] at c4
                      obtain ⟨bs, os, h8, h9⟩ := c4
                      obtain rfl := h8 (by omega)
                      have c9 : wr.cell? ⟨bs, os + p, none⟩ = some (.int .i64 (sn : Int)) := by
                        have := h9 p hpl
                        unfold iV at this
                        rw [hsn] at this
                        exact this
                      have e2 := hal.row.cell hsm
                      rw [hno] at e2
                      have e3 := hal.row.frozen sn
                      obtain ⟨aq, bq, cq, dq, eq, fq, eqq, -, ⟨bl', ol', hl1, hl2⟩, -⟩ := obr.bookAt
                      simp only [Value.agg.injEq, Array.mk.injEq, List.cons.injEq, Value.slice.injEq, and_true, true_and] at eqq
                      obtain ⟨-, ⟨q3, -⟩, -⟩ := eqq
                      have ql := q3.trans (hl1 (by have := HLM.out; omega))
                      have l9 : wr.cell? ⟨bl', ol' + sn, none⟩ = some (.bool false) := by
                        have := hl2 sn (by have := HLM.out; omega)
                        unfold bV at this
                        rw [hlk2] at this
                        exact this
                      obtain ⟨-, d1, d2, d3, d4⟩ := dcells hal.box
                      rw [ql] at d3
                      clear ql q3
                      have zd : wo.heap.size < wr.heap.size := by have := hal.z; omega
                      have zg : wo.heap.size + 1 < wr.heap.size := by have := hal.z; omega
                      have n0 : (0 : Int) ≤ (sn : Int) := by omega
                      have n1 : (sn : Int) < (mn : Int) := by omega
                      have n2 : (sn : Int) < (R.locked.length : Int) := by have := HLM.out; omega
                      have HP : Hid (Inv (bX R) q (p + 1) (fun t => if t = (sn : Int) then some (q : Int) else F' t) ∧ Al wo wr #[.int .i64 cd, .int .i64 R.n, .slice (some ⟨k1.G, 0, none⟩) R.orders.length co1, .slice al1 R.locked.length cl1, .slice ac1 R.occ.length cc1] mn F' ∧ wr.heap[wq.heap.size]? = some (.cells #[.string (bX R q).holder, .int .i64 (bX R q).kind, .slice (some ⟨bs, os, none⟩) (bX R q).secs.length sc, .int .i64 (bX R q).state] 41 (0, 0)) ∧ wr.ownsRow (wo.heap.size + 2) 3 1 v5 (openTo (bX R) (q + 1)).length ((openTo (bX R) (q + 1)).map (Value.int .i64))) := ⟨hst, hal, hxo, hov⟩
                      have hl20 : (bX R q).secs.length ≤ 20 := lok.2.2
                      clear hinv hal hxo hov obr lok l1 hlim hsn hsV hno hlk hst hlk2 h8 h9 hl1 hl2
                      go_wp2
                      go_roundw
                      case rel =>
                        exact ⟨p + 1, _, by omega, by go_num, HP.out.1, HP.out.2.1.put sn q, (Deep.blk_setCell_other _ _ _ _ (by show wq.heap.size ≠ wo.heap.size + 1; omega)).trans HP.out.2.2.1, owns_of_block HP.out.2.2.2 (fun g hg => Deep.blk_setCell_other _ _ _ _ (by have := ownBlock_low HP.out.2.2.2 hg; show g ≠ wo.heap.size + 1; omega))⟩
                      case measure => simp [intOf]; omega
                    · obtain rfl : p = (bX R q).secs.length := by omega
                      have HP : Hid (Inv (bX R) (q + 1) 0 F' ∧ Al wo wr #[.int .i64 cd, .int .i64 R.n, .slice (some ⟨k1.G, 0, none⟩) R.orders.length co1, .slice al1 R.locked.length cl1, .slice ac1 R.occ.length cc1] mn F' ∧ wr.ownsRow (wo.heap.size + 2) 3 1 v5 (openTo (bX R) (q + 1)).length ((openTo (bX R) (q + 1)).map (Value.int .i64))) := ⟨hinv.done, hal, hov⟩
                      clear hinv hal hxo hov
                      go_wp2
                      go_roundw
                      case rel => exact ⟨q + 1, _, F', by omega, by go_num, rfl, HP.out.2.2, HP.out.1, HP.out.2.1⟩
                      case measure => simp [intOf]; omega
                · have t2 : ((bX R q).state == 2) = false := by rw [hst]; rfl
                  have t2' : ((bX R q).state != 2) = true := by rw [hst]; rfl
                  have t3 : ((bX R q).state == 3) = true := by rw [hst]; rfl
                  have t3' : ((bX R q).state != 3) = false := by rw [hst]; rfl
                  clear hst
                  have hz3 : wo.heap.size + 2 ≤ wq.heap.size := HQ.out.2.2.1.z
                  have hol : (openTo (bX R) q).length ≤ q := openTo_le _ _
                  obtain ⟨gL, adL, cpL, rfl, -⟩ := ownL_of HQ.out.1
                  go_wp2_with (at_builtin; refine stand ?_)
                  refine Stand.go ?_
                  have n4 : ∀ j u', [Value.int .i64 (q : Int)][j]? = some u' → ((wq.alloc (.cells #[.string (bX R q).holder, .int .i64 (bX R q).kind, .slice sa (bX R q).secs.length sc, .int .i64 (bX R q).state] 41)).alloc (.cells #[.int .i64 (q : Int)] 3)).cell? ((⟨wq.heap.size + 1, 0, none⟩ : Addr).add j) = some u' := by
                    intro j u' hu
                    rw [add0]
                    refine cell_of_box (boxes2 _ _ _ _ _).2 ?_
                    rw [← Array.getElem?_toList]
                    exact hu
                  refine wpList_append_own_at _ rfl _ _ 30 rfl (wo.heap.size + 2) 3 i0 (.int .i64 0) 1 8 Tryz.underlying30 hi hz0 hz1 hz2 rfl (by decide) (.slice adL (openTo (bX R) q).length cpL) (openTo (bX R) q).length ((openTo (bX R) q).map (Value.int .i64)) rfl (ownsRow_below HQ.out.1 (below2 _ _ _)) ⟨wq.heap.size + 1, 0, none⟩ 1 1 [.int .i64 (q : Int)] rfl rfl n4 (ints_oneCell .i64 [(q : Int)]) (by unfold maxLen; omega) (by omega) (by simp; omega) ?_
                  intro v5 w5 hown5 hgrow5 _ _
                  clear n4
                  have s4 : ((wq.alloc (.cells #[.string (bX R q).holder, .int .i64 (bX R q).kind, .slice sa (bX R q).secs.length sc, .int .i64 (bX R q).state] 41)).alloc (.cells #[.int .i64 (q : Int)] 3)).heap.size = wq.heap.size + 2 := by simp
                  have f5 : Fr (fun x => (Value.slice adL (openTo (bX R) q).length cpL).ownBlock = some x) ((wq.alloc (.cells #[.string (bX R q).holder, .int .i64 (bX R q).kind, .slice sa (bX R q).secs.length sc, .int .i64 (bX R q).state] 41)).alloc (.cells #[.int .i64 (q : Int)] 3)) w5 := ⟨hgrow5.os, hgrow5.tape, hgrow5.output, hgrow5.size, fun j hj hn' => hgrow5.block j hj (fun e => hn' e.symm)⟩
                  have A5 : Al wo w5 #[.int .i64 cd, .int .i64 R.n, .slice (some ⟨k1.G, 0, none⟩) R.orders.length co1, .slice al1 R.locked.length cl1, .slice ac1 R.occ.length cc1] mn F := (HQ.out.2.2.1.below (below2 _ _ _)).fr f5 (fun x e => ownBlock_low HQ.out.1 e)
                  have x5 : w5.heap[wq.heap.size]? = some (.cells #[.string (bX R q).holder, .int .i64 (bX R q).kind, .slice sa (bX R q).secs.length sc, .int .i64 (bX R q).state] 41 (0, 0)) := (f5.block _ (by omega) (fun e => by have := (owns_lt HQ.out.1 e).2; omega)).trans (boxes2 _ _ _ _ _).1
                  have h5 : w5.ownsRow (wo.heap.size + 2) 3 1 v5 (openTo (bX R) (q + 1)).length ((openTo (bX R) (q + 1)).map (Value.int .i64)) := by
                    rw [openTo_yes HOP.out]
                    simpa using hown5
                  have z5 : wq.heap.size < w5.heap.size := (Array.getElem?_eq_some_iff.1 x5).1
                  have H5 : Hid (Al wo w5 #[.int .i64 cd, .int .i64 R.n, .slice (some ⟨k1.G, 0, none⟩) R.orders.length co1, .slice al1 R.locked.length cl1, .slice ac1 R.occ.length cc1] mn F ∧ w5.heap[wq.heap.size]? = some (.cells #[.string (bX R q).holder, .int .i64 (bX R q).kind, .slice sa (bX R q).secs.length sc, .int .i64 (bX R q).state] 41 (0, 0)) ∧ w5.ownsRow (wo.heap.size + 2) 3 1 v5 (openTo (bX R) (q + 1)).length ((openTo (bX R) (q + 1)).map (Value.int .i64))) := ⟨A5, x5, h5⟩
                  have HI : Hid (Inv (bX R) q 0 F) := HQ.out.2.1
                  obtain ⟨o0, o1, o2, o3⟩ := box_cells x5
                  clear hown5 hgrow5 f5 A5 x5 h5 s4 HQ c0 c1 c2 c3 lk
                  go_wp2
                  clear o0 o1 o2 o3
                  go_loopw [80] (fun i wr => ∃ (p : Nat) (F' : Int → Option Int), p ≤ (bX R q).secs.length ∧ i = .int .i64 p ∧ Inv (bX R) q p F' ∧ Al wo wr #[.int .i64 cd, .int .i64 R.n, .slice (some ⟨k1.G, 0, none⟩) R.orders.length co1, .slice al1 R.locked.length cl1, .slice ac1 R.occ.length cc1] mn F' ∧ wr.heap[wq.heap.size]? = some (.cells #[.string (bX R q).holder, .int .i64 (bX R q).kind, .slice sa (bX R q).secs.length sc, .int .i64 (bX R q).state] 41 (0, 0)) ∧ wr.ownsRow (wo.heap.size + 2) 3 1 v5 (openTo (bX R) (q + 1)).length ((openTo (bX R) (q + 1)).map (Value.int .i64))) (fun i _ => (bX R q).secs.length - (intOf i).toNat)
                  case atStart => exact ⟨0, F, Nat.zero_le _, rfl, HI.out, H5.out⟩
                  case round =>
                    obtain ⟨p, F', hp, rfl, hinv, hal, hxo, hov⟩ := hrel
                    clear H5 HI
                    by_cases hpl : p < (bX R q).secs.length
                    · have obr := HO.out.2.below hal.bel
                      obtain ⟨⟨-, -, -, -, c4⟩, -, -⟩ := ord_facts obr hql
                      have lok := (HF.out.1.2.1 q hql).2.2.1
                      have l1 := lok.1 p hpl
                      have hlim := HF.out.2.2
                      obtain ⟨sn, hsn⟩ : ∃ sn : Nat, (bX R q).secs.getD p 0 = (sn : Int) := ⟨((bX R q).secs.getD p 0).toNat, by have : sV (bX R q) p = (bX R q).secs.getD p 0 := rfl; omega⟩
                      have hsV : sV (bX R q) p = (sn : Int) := hsn
                      have hsm : sn < mn := by omega
                      have hno := alone_none HF.out.1 hql hpl hinv HOP.out
                      have hlk := alone_lock HF.out.1 hql hpl HOP.out
                      have hst := hinv.store HOP.out hno
                      rw [hsV] at hno hlk hst
                      have hlk2 : R.locked.getD sn false = false := by simpa using hlk
                      rw [← HSA.out] at c4
                      obtain ⟨bs, os, h8, h9⟩ := c4
                      obtain rfl := h8 (by omega)
                      have c9 : wr.cell? ⟨bs, os + p, none⟩ = some (.int .i64 (sn : Int)) := by
                        have := h9 p hpl
                        unfold iV at this
                        rw [hsn] at this
                        exact this
                      have e2 := hal.row.cell hsm
                      rw [hno] at e2
                      have e3 := hal.row.frozen sn
                      obtain ⟨aq, bq, cq, dq, eq, fq, eqq, -, ⟨bl', ol', hl1, hl2⟩, -⟩ := obr.bookAt
                      simp only [Value.agg.injEq, Array.mk.injEq, List.cons.injEq, Value.slice.injEq, and_true, true_and] at eqq
                      obtain ⟨-, ⟨q3, -⟩, -⟩ := eqq
                      have ql := q3.trans (hl1 (by have := HLM.out; omega))
                      have l9 : wr.cell? ⟨bl', ol' + sn, none⟩ = some (.bool false) := by
                        have := hl2 sn (by have := HLM.out; omega)
                        unfold bV at this
                        rw [hlk2] at this
                        exact this
                      obtain ⟨-, d1, d2, d3, d4⟩ := dcells hal.box
                      rw [ql] at d3
                      clear ql q3
                      have zd : wo.heap.size < wr.heap.size := by have := hal.z; omega
                      have zg : wo.heap.size + 1 < wr.heap.size := by have := hal.z; omega
                      have n0 : (0 : Int) ≤ (sn : Int) := by omega
                      have n1 : (sn : Int) < (mn : Int) := by omega
                      have n2 : (sn : Int) < (R.locked.length : Int) := by have := HLM.out; omega
                      have HP : Hid (Inv (bX R) q (p + 1) (fun t => if t = (sn : Int) then some (q : Int) else F' t) ∧ Al wo wr #[.int .i64 cd, .int .i64 R.n, .slice (some ⟨k1.G, 0, none⟩) R.orders.length co1, .slice al1 R.locked.length cl1, .slice ac1 R.occ.length cc1] mn F' ∧ wr.heap[wq.heap.size]? = some (.cells #[.string (bX R q).holder, .int .i64 (bX R q).kind, .slice (some ⟨bs, os, none⟩) (bX R q).secs.length sc, .int .i64 (bX R q).state] 41 (0, 0)) ∧ wr.ownsRow (wo.heap.size + 2) 3 1 v5 (openTo (bX R) (q + 1)).length ((openTo (bX R) (q + 1)).map (Value.int .i64))) := ⟨hst, hal, hxo, hov⟩
                      have hl20 : (bX R q).secs.length ≤ 20 := lok.2.2
                      clear hinv hal hxo hov obr lok l1 hlim hsn hsV hno hlk hst hlk2 h8 h9 hl1 hl2
                      go_wp2
                      go_roundw
                      case rel =>
                        exact ⟨p + 1, _, by omega, by go_num, HP.out.1, HP.out.2.1.put sn q, (Deep.blk_setCell_other _ _ _ _ (by show wq.heap.size ≠ wo.heap.size + 1; omega)).trans HP.out.2.2.1, owns_of_block HP.out.2.2.2 (fun g hg => Deep.blk_setCell_other _ _ _ _ (by have := ownBlock_low HP.out.2.2.2 hg; show g ≠ wo.heap.size + 1; omega))⟩
                      case measure => simp [intOf]; omega
                    · obtain rfl : p = (bX R q).secs.length := by omega
                      have HP : Hid (Inv (bX R) (q + 1) 0 F' ∧ Al wo wr #[.int .i64 cd, .int .i64 R.n, .slice (some ⟨k1.G, 0, none⟩) R.orders.length co1, .slice al1 R.locked.length cl1, .slice ac1 R.occ.length cc1] mn F' ∧ wr.ownsRow (wo.heap.size + 2) 3 1 v5 (openTo (bX R) (q + 1)).length ((openTo (bX R) (q + 1)).map (Value.int .i64))) := ⟨hinv.done, hal, hov⟩
                      clear hinv hal hxo hov
                      go_wp2
                      go_roundw
                      case rel => exact ⟨q + 1, _, F', by omega, by go_num, rfl, HP.out.2.2, HP.out.1, HP.out.2.1⟩
                      case measure => simp [intOf]; omega
              · have t2 : ((bX R q).state == 2) = false := by simp; exact fun e => hop (Or.inl e)
                have t2' : ((bX R q).state != 2) = true := by simp; exact fun e => hop (Or.inl e)
                have t3 : ((bX R q).state == 3) = false := by simp; exact fun e => hop (Or.inr e)
                have t3' : ((bX R q).state != 3) = true := by simp; exact fun e => hop (Or.inr e)
                have HOP : Hid (¬ OpenP (bX R q).state) := hop
                have h2 : ¬ (bX R q).state = 2 := fun e => hop (Or.inl e)
                have h3 : ¬ (bX R q).state = 3 := fun e => hop (Or.inr e)
                clear hop
                go_wp2
                go_roundw
                case rel =>
                  have bo := below1 wq (.cells #[.string (bX R q).holder, .int .i64 (bX R q).kind, .slice sa (bX R q).secs.length sc, .int .i64 (bX R q).state] 41)
                  exact ⟨q + 1, _, F, by omega, by go_num, rfl, by rw [openTo_no HOP.out]; exact ownsRow_below HQ.out.1 bo, HQ.out.2.1.skip HOP.out, HQ.out.2.2.1.below bo⟩
                case measure => simp [intOf]; omega
            · obtain rfl : q = R.orders.length := by omega
              obtain ⟨-, d1, d2, d3, d4⟩ := dcells hal.box
              have zd : wo.heap.size < wr.heap.size := by have := hal.z; omega
              obtain ⟨gL, adL, cpL, rfl, -⟩ := ownL_of hown
              have HQ : Hid (wr.ownsRow (wo.heap.size + 2) 3 1 (.slice adL (openTo (bX R) R.orders.length).length cpL) (openTo (bX R) R.orders.length).length ((openTo (bX R) R.orders.length).map (Value.int .i64)) ∧ Inv (bX R) R.orders.length 0 F ∧ Al wo wr #[.int .i64 cd, .int .i64 R.n, .slice ao1 R.orders.length co1, .slice al1 R.locked.length cl1, .slice ac1 R.occ.length cc1] mn F) := ⟨hown, hinv, hal⟩
              have hol : (openTo (bX R) R.orders.length).length ≤ R.orders.length := openTo_le _ _
              obtain ⟨w5, hw5⟩ : ∃ w5, w5 = wr := ⟨_, rfl⟩
              rw [← hw5] at HQ d1 d2 d3 d4 zd ⊢
              clear hown hinv hal hw5
              go_wp2_with fail
              refine (implOpen_any _ R _ HF.out.2.1.1 HF.out.2.1.2 (HO.out.2.below HQ.out.2.2.bel).bookAt).mono ?_
              rintro e w6 ⟨⟨v6, l6, g6, rfl, hop6, ⟨ad6, cap6, rfl, h6⟩⟩, hb6⟩
              obtain rfl : openTo (bX R) R.orders.length = l6 := (hop6.det (Or.inr ⟨HF.out.1, rfl⟩)).symm
              have H6 : Hid (Cells w6 ad6 (openTo (bX R) R.orders.length).length (iV (openTo (bX R) R.orders.length)) ∧ Cells w6 adL (openTo (bX R) R.orders.length).length (iV (openTo (bX R) R.orders.length)) ∧ Al wo w6 #[.int .i64 cd, .int .i64 R.n, .slice ao1 R.orders.length co1, .slice al1 R.locked.length cl1, .slice ac1 R.occ.length cc1] mn F) := ⟨pre_cells (fun h => ⟨(h6 h).1, (h6 h).2.2⟩), cells_of_owns (ownsRow_below HQ.out.1 hb6), HQ.out.2.2.below hb6⟩
              have HI : Hid (Inv (bX R) R.orders.length 0 F) := HQ.out.2.1
              clear hop6 h6 hb6 HQ d1 d2 d3 d4 zd
              go_wp2_with fail
              refine (wInts_same ad6 adL cap6 cpL (openTo (bX R) R.orders.length).length (fun i => (openTo (bX R) R.orders.length).getD i 0) w6 (by omega) H6.out.1 H6.out.2.1).mono ?_
              rintro e w7 ⟨rfl, hb7⟩
              have H7 : Hid (Al wo w7 #[.int .i64 cd, .int .i64 R.n, .slice ao1 R.orders.length co1, .slice al1 R.locked.length cl1, .slice ac1 R.occ.length cc1] mn F) := H6.out.2.2.below hb7
              clear hb7 H6
              go_wp2
              go_loopw [120] (fun i wr => ∃ s : Nat, s ≤ mn ∧ i = .int .i64 s ∧ Al wo wr #[.int .i64 cd, .int .i64 R.n, .slice ao1 R.orders.length co1, .slice al1 R.locked.length cl1, .slice ac1 R.occ.length cc1] mn F) (fun i _ => mn - (intOf i).toNat)
              case atStart => exact ⟨0, Nat.zero_le _, rfl, H7.out⟩
              case round =>
                obtain ⟨s, hs, rfl, hal⟩ := hrel
                clear H7
                by_cases hsl : s < mn
                · have e2 := hal.row.cell hsl
                  obtain ⟨z, hz⟩ : ∃ z, z = (F (s : Int)).getD (-1) := ⟨_, rfl⟩
                  rw [← hz] at e2
                  have HZ : Hid (z = (F (s : Int)).getD (-1)) := hz
                  obtain ⟨-, d1, d2, d3, d4⟩ := dcells hal.box
                  have zd : wo.heap.size < wr.heap.size := by have := hal.z; omega
                  have HA : Hid (Al wo wr #[.int .i64 cd, .int .i64 R.n, .slice ao1 R.orders.length co1, .slice al1 R.locked.length cl1, .slice ac1 R.occ.length cc1] mn F) := hal
                  have wfs : (Lit.int .i64 (s : Int)).wf = true := by simp [Lit.wf, IntKind.min, IntKind.max, IntKind.signed, IntKind.bits]; omega
                  clear hal hz
                  go_wp2_with fail
                  refine (implWho_any _ R (s : Int) _ HF.out.2.1.1 HF.out.2.1.2 wfs (HO.out.2.below HA.out.bel).bookAt).mono ?_
                  rintro e w8 ⟨⟨r8, rfl, hr8⟩, hb8⟩
                  obtain rfl : r8 = z := (alone_who HF.out.1 HI.out hr8).trans HZ.out.symm
                  have H8 : Hid (Al wo w8 #[.int .i64 cd, .int .i64 R.n, .slice ao1 R.orders.length co1, .slice al1 R.locked.length cl1, .slice ac1 R.occ.length cc1] mn F) := HA.out.below hb8
                  clear hr8 hb8 HA e2 d1 d2 d3 d4 zd
                  go_wp2
                  go_roundw
                  case rel => exact ⟨s + 1, by omega, by go_num, H8.out⟩
                  case measure => simp [intOf]; omega
                · have HA : Hid (Al wo wr #[.int .i64 cd, .int .i64 R.n, .slice ao1 R.orders.length co1, .slice al1 R.locked.length cl1, .slice ac1 R.occ.length cc1] mn F) := hal
                  clear hal
                  go_wp2
                  go_roundw
                  case rel => exact ⟨k + 1, by omega, by go_num, below_trans HO.out.1 HO.out.1.size HA.out.bel⟩
                  case measure => simp [intOf]; omega
    · obtain rfl : k = M := by omega
      have HO : Hid (Below w3.heap.size w3 wr) := hb
      clear hb
      go_wp2
      go_ret
      exact ⟨rfl, below_trans HR.out.2.2 HR.out.2.2.size HO.out⟩

end Go.Proofs.YteifekoiognhmaaGreatDoor
