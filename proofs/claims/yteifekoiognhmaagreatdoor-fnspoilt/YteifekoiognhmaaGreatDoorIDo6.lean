/-
  The contracts of impl.behind, impl.Do. Mine, by template (wip/gen.py).
-/
import Derived.Test.YteifekoiognhmaaGreatDoorIDo5
import Derived.Test.YteifekoiognhmaaGreatDoorEvI2
import Derived.Test.YteifekoiognhmaaGreatDoorMarkZ
namespace Go.Proofs.YteifekoiognhmaaGreatDoor
open Go.RowKit

theorem stand' {p : Prop} (h : Stand p) : p := h

theorem OwnBook.mono {w : World} {lo lo' : Nat} {v : Value} {B : Bk} {K : Blk} (h : OwnBook w lo v B K) (hl : lo' ≤ lo) : OwnBook w lo' v B K := by
  obtain ⟨⟨ao, co, al, cl, ac, cc, e, h1, h2, h3⟩, q1, q2, q3, q4, q5⟩ := h
  exact ⟨⟨ao, co, al, cl, ac, cc, e, h1.mono hl, h2.mono hl, h3.mono hl⟩, q1, q2, q3, q4, q5⟩

theorem happen_any (A : Nat → Addr) (v : Value) (B : Bk) (K : Blk) (lo p : Nat) (E : Ev) (ad : Option Addr) (c : Nat) (w : World) (h : HapPre A w lo p v B K) (hok : EvOk B E) (hes : E.secs.length ≤ 1048576) (G : Cells w ad E.secs.length (iV E.secs)) :
    Calls Tryz.prog 55 #[.pointer (some ⟨p, 0, none⟩), hapV E.op E.of_ E.holder E.kind ad E.secs.length c E.text] w fun e w' => RetY A e w w' lo p (doP B E) := by
  have hin := EvOk.some hok
  unfold In at hin
  unfold hapV
  rcases (show E.op = 1 ∨ E.op = 2 ∨ E.op = 3 ∨ E.op = 4 ∨ E.op = 5 ∨ E.op = 6 ∨ E.op = 7 ∨ E.op = 8 ∨ E.op = 9 by omega) with o | o | o | o | o | o | o | o | o
  · rw [if_pos o]; exact happen_1 A v B K lo p E ad c w h hok o hes G
  · rw [if_neg (by omega), if_pos o]; exact happen_2 A v B K lo p E ad c w h hok o hes G
  · rw [if_neg (by omega), if_neg (by omega), if_pos o]; exact happen_3 A v B K lo p E ad c w h hok o hes G
  · rw [if_neg (by omega), if_neg (by omega), if_neg (by omega), if_pos o]; exact happen_4 A v B K lo p E ad c w h hok o hes G
  · rw [if_neg (by omega), if_neg (by omega), if_neg (by omega), if_neg (by omega), if_pos o]; exact happen_5 A v B K lo p E ad c w h hok o hes G
  · rw [if_neg (by omega), if_neg (by omega), if_neg (by omega), if_neg (by omega), if_neg (by omega), if_pos o]; exact happen_6 A v B K lo p E ad c w h hok o hes G
  · rw [if_neg (by omega), if_neg (by omega), if_neg (by omega), if_neg (by omega), if_neg (by omega), if_neg (by omega), if_pos o]; exact happen_7 A v B K lo p E ad c w h hok o hes G
  · rw [if_neg (by omega), if_neg (by omega), if_neg (by omega), if_neg (by omega), if_neg (by omega), if_neg (by omega), if_neg (by omega), if_pos o]; exact happen_8 A v B K lo p E ad c w h hok o hes G
  · rw [if_neg (by omega), if_neg (by omega), if_neg (by omega), if_neg (by omega), if_neg (by omega), if_neg (by omega), if_neg (by omega), if_neg (by omega), if_pos o]; exact happen_9 A v B K lo p E ad c w h hok o hes G

/-- What impl.behind answers. -/
def RetB2 (A : Nat → Addr) (e : Ending) (w w' : World) (B : Bk) (E : Ev) : Prop :=
  ∃ o v K, e = .returned (.tuple #[v, errO A o]) ∧ ErrOk o ∧ codeN o = (doP B E).1 ∧ OwnBook w' w.heap.size v (doP B E).2 K ∧ Below w.heap.size w w'

set_option maxHeartbeats 8000000 in
theorem behind_any (A : Nat → Addr) (v ve : Value) (B : Bk) (E : Ev) (w : World) (hE : Errs w A) (hT : Lib.TabIs Tryz.prog w "internal/strconv.uint64pow10" .u64 Lib.pow10Tab) (hsm : B.orders.length ≤ 1048576 ∧ ∀ i, i < B.orders.length → (bX B i).secs.length ≤ 1048576 ∧ (bX B i).holder.size ≤ 1048576)
    (he1 : E.holder.size ≤ 1048576) (he2 : E.text.size ≤ 1048576) (he3 : E.secs.length ≤ 1048576) (G : BookAt w v B) (GE : EvAt w ve E) :
    Calls Tryz.prog 26 #[v, ve] w fun e w' => RetB2 A e w w' B E := by
  have G0 := G
  have GE0 := GE
  obtain ⟨ao, co, al, cl, ac, cc, rfl, -⟩ := G
  obtain ⟨ad, ca, rfl, -⟩ := GE
  have HG : Hid (BookAt w (.agg #[.int .i64 B.n, .slice ao B.orders.length co, .slice al B.locked.length cl, .slice ac B.occ.length cc]) B ∧ EvAt w (.agg #[.int .i64 E.op, .int .i64 E.of_, .string E.holder, .int .i64 E.kind, .slice ad E.secs.length ca, .string E.text]) E ∧ Errs w A ∧ Lib.TabIs Tryz.prog w "internal/strconv.uint64pow10" .u64 Lib.pow10Tab) := ⟨G0, GE0, hE, hT⟩
  clear G0 GE0 hE hT
  have B3 : Below w.heap.size w (((w.alloc (.cells #[.int .i64 B.n, .slice ao B.orders.length co, .slice al B.locked.length cl, .slice ac B.occ.length cc] 37)).alloc (.cells #[.int .i64 E.op, .int .i64 E.of_, .string E.holder, .int .i64 E.kind, .slice ad E.secs.length ca, .string E.text] 32)).alloc (.cells #[.int .i64 0, .slice none 0 0, .slice none 0 0, .slice none 0 0] 37)) := below3 _ _ _ _
  go_enter Tryz.func26, Tryz.ntmps26
  go_wp2_with fail
  refine (implEventOk_any _ _ B E _ hsm.1 hsm.2 (by omega) (by omega) (by omega) (HG.out.1.below B3) (HG.out.2.1.below B3)).mono ?_
  rintro e w1 ⟨hr, hb⟩
  have sz3 : (((w.alloc (.cells #[.int .i64 B.n, .slice ao B.orders.length co, .slice al B.locked.length cl, .slice ac B.occ.length cc] 37)).alloc (.cells #[.int .i64 E.op, .int .i64 E.of_, .string E.holder, .int .i64 E.kind, .slice ad E.secs.length ca, .string E.text] 32)).alloc (.cells #[.int .i64 0, .slice none 0 0, .slice none 0 0, .slice none 0 0] 37)).heap.size = w.heap.size + 3 := by simp
  have x0 : w1.heap[w.heap.size]? = some (.cells #[.int .i64 B.n, .slice ao B.orders.length co, .slice al B.locked.length cl, .slice ac B.occ.length cc] 37 (0, 0)) := (hb.block _ (by omega)).trans (by rw [Deep.blk_alloc_lt _ _ _ (by simp; omega), Deep.blk_alloc_lt _ _ _ (by simp)]; exact Deep.blk_alloc_new _ _)
  have x1 : w1.heap[w.heap.size + 1]? = some (.cells #[.int .i64 E.op, .int .i64 E.of_, .string E.holder, .int .i64 E.kind, .slice ad E.secs.length ca, .string E.text] 32 (0, 0)) := (hb.block _ (by omega)).trans (by
    rw [Deep.blk_alloc_lt _ _ _ (by simp)]
    have := Deep.blk_alloc_new (w.alloc (.cells #[.int .i64 B.n, .slice ao B.orders.length co, .slice al B.locked.length cl, .slice ac B.occ.length cc] 37)) (.cells #[.int .i64 E.op, .int .i64 E.of_, .string E.holder, .int .i64 E.kind, .slice ad E.secs.length ca, .string E.text] 32)
    simpa using this)
  have x2 : w1.heap[w.heap.size + 1 + 1]? = some (.cells #[.int .i64 0, .slice none 0 0, .slice none 0 0, .slice none 0 0] 37 (0, 0)) := (hb.block _ (by omega)).trans (by
    have := Deep.blk_alloc_new ((w.alloc (.cells #[.int .i64 B.n, .slice ao B.orders.length co, .slice al B.locked.length cl, .slice ac B.occ.length cc] 37)).alloc (.cells #[.int .i64 E.op, .int .i64 E.of_, .string E.holder, .int .i64 E.kind, .slice ad E.secs.length ca, .string E.text] 32)) (.cells #[.int .i64 0, .slice none 0 0, .slice none 0 0, .slice none 0 0] 37)
    simpa using this)
  have bw : Below w.heap.size w w1 := B3.trans (hb.mono B3.size)
  have z1 : w.heap.size + 3 ≤ w1.heap.size := by have := hb.size; omega
  have HX : Hid (w1.heap[w.heap.size]? = some (.cells #[.int .i64 B.n, .slice ao B.orders.length co, .slice al B.locked.length cl, .slice ac B.occ.length cc] 37 (0, 0)) ∧ w1.heap[w.heap.size + 1]? = some (.cells #[.int .i64 E.op, .int .i64 E.of_, .string E.holder, .int .i64 E.kind, .slice ad E.secs.length ca, .string E.text] 32 (0, 0)) ∧ w1.heap[w.heap.size + 1 + 1]? = some (.cells #[.int .i64 0, .slice none 0 0, .slice none 0 0, .slice none 0 0] 37 (0, 0)) ∧ Below w.heap.size w w1) := ⟨x0, x1, x2, bw⟩
  obtain ⟨m0, m1, m2, m3⟩ := box_cells x0
  obtain ⟨q0, q1, q2, q3⟩ := box_cells x2
  have f0 : w1.frozen? ⟨w.heap.size + 1 + 1, 0, none⟩ = false := frozen_of_box x2
  have f1 : w1.frozen? ⟨w.heap.size + 1 + 1, 1, none⟩ = false := frozen_of_box x2
  have f2 : w1.frozen? ⟨w.heap.size + 1 + 1, 2, none⟩ = false := frozen_of_box x2
  have f3 : w1.frozen? ⟨w.heap.size + 1 + 1, 3, none⟩ = false := frozen_of_box x2
  have v0 : w1.cell? ⟨0, 0, none⟩ = some (errV A 0) := (HG.out.2.2.1.below bw).v 0 (by omega)
  clear hb B3 sz3 x0 x1 x2 bw
  rcases hr.cases with ⟨rfl, hok⟩ | ⟨rfl, hok⟩
  · have HK : Hid (EvOk B E) := hok
    clear hok hr v0 f0 f1 f2 f3 q0 q1 q2 q3
    go_wp2_with fail
    refine (copyBook_any _ B _ hsm.1 (fun i hi => (hsm.2 i hi).1) (by have := HK.out.1.1.1.2; have := HK.out.1.1.2.1; omega) (by have := HK.out.1.1.1.2; have := HK.out.1.1.2.2.1; omega) (HG.out.1.below HX.out.2.2.2)).mono ?_
    rintro e w2 ⟨v2, rfl, ⟨K, hrow⟩, hb2⟩
    obtain ⟨ao2, co2, al2, cl2, ac2, cc2, hv2, -⟩ := hrow.own.shape
    subst hv2
    have z2 : w1.heap.size ≤ w2.heap.size := hb2.size
    have y1 : w2.heap[w.heap.size + 1]? = some (.cells #[.int .i64 E.op, .int .i64 E.of_, .string E.holder, .int .i64 E.kind, .slice ad E.secs.length ca, .string E.text] 32 (0, 0)) := (hb2.block _ (by omega)).trans HX.out.2.1
    have y2 : w2.heap[w.heap.size + 1 + 1]? = some (.cells #[.int .i64 0, .slice none 0 0, .slice none 0 0, .slice none 0 0] 37 (0, 0)) := (hb2.block _ (by omega)).trans HX.out.2.2.1
    have y1' := (Deep.blk_alloc_lt w2 (.cells #[.int .i64 B.n, .slice ao2 B.orders.length co2, .slice al2 B.locked.length cl2, .slice ac2 B.occ.length cc2] 37) _ (Array.getElem?_eq_some_iff.1 y1).1).trans y1
    obtain ⟨e0, e1, e2, e3, e4, e5⟩ := ev_cells y1'
    have bw2 := below_trans HX.out.2.2.2 HX.out.2.2.2.size hb2
    have HR : Hid (RowBook w2 w1.heap.size (.agg #[.int .i64 B.n, .slice ao2 B.orders.length co2, .slice al2 B.locked.length cl2, .slice ac2 B.occ.length cc2]) B K ∧ w2.heap[w.heap.size + 1 + 1]? = some (.cells #[.int .i64 0, .slice none 0 0, .slice none 0 0, .slice none 0 0] 37 (0, 0)) ∧ Below w.heap.size w w2) := ⟨hrow, y2, bw2⟩
    clear hrow hb2 y1 y1' y2 bw2 m0 m1 m2 m3
    go_wp2_with fail
    refine (happeningOf_any E.op E.of_ E.holder E.kind ad E.secs.length ca E.text _).mono ?_
    rintro e w3 ⟨rfl, hb3⟩
    have sz : (w2.alloc (.cells #[.int .i64 B.n, .slice ao2 B.orders.length co2, .slice al2 B.locked.length cl2, .slice ac2 B.occ.length cc2] 37)).heap.size = w2.heap.size + 1 := alloc_size _ _
    have st : Below w2.heap.size w2 w3 := (below1 _ _).trans (hb3.mono (by omega))
    have bp : w3.heap[w2.heap.size]? = some (.cells #[.int .i64 B.n, .slice ao2 B.orders.length co2, .slice al2 B.locked.length cl2, .slice ac2 B.occ.length cc2] 37 (0, 0)) := (hb3.block _ (by omega)).trans (Deep.blk_alloc_new _ _)
    have bw3 := below_trans HR.out.2.2 HR.out.2.2.size st
    have HP : HapPre A w3 w1.heap.size w2.heap.size (.agg #[.int .i64 B.n, .slice ao2 B.orders.length co2, .slice al2 B.locked.length cl2, .slice ac2 B.occ.length cc2]) B K := ⟨HG.out.2.2.1.below bw3, tab_below HG.out.2.2.2 bw3, HR.out.1.below st, ⟨_, _, _, _, rfl, bp⟩, fun b hb => by have := HR.out.1.own.blocks_lt hb; omega, by have := st.size; omega, z2, HK.out.1, hsm⟩
    have CH := happen_any A _ B K _ _ E ad ca w3 HP HK.out he3 (by
      obtain ⟨ad', c', e, hc⟩ := HG.out.2.1
      simp only [Value.agg.injEq, Array.mk.injEq, List.cons.injEq, Value.slice.injEq, and_true, true_and] at e
      obtain ⟨rfl, rfl⟩ := e
      exact hc.below bw3)
    have HZ : Hid (w3.heap[w.heap.size + 1 + 1]? = some (.cells #[.int .i64 0, .slice none 0 0, .slice none 0 0, .slice none 0 0] 37 (0, 0)) ∧ Below w.heap.size w w3) := ⟨(st.block _ (by omega)).trans HR.out.2.1, bw3⟩
    clear hb3 sz st bp bw3 HP e0 e1 e2 e3 e4 e5
    go_wp2_with (go_at_call 55; refine CH.mono ?_; rintro e w4 ⟨o, v', K', rfl, r1, r2, r3, r4, r5⟩; refine stand' ?_)
    refine Stand.go ?_
    obtain ⟨ao4, co4, al4, cl4, ac4, cc4, hv4, -⟩ := r3.shape
    subst hv4
    obtain ⟨a, b, c, d, e, bp4⟩ := r4
    simp only [Value.agg.injEq, Array.mk.injEq, List.cons.injEq, and_true] at e
    obtain ⟨rfl, rfl, rfl, rfl⟩ := e
    have x4 : w4.heap[w.heap.size + 1 + 1]? = some (.cells #[.int .i64 0, .slice none 0 0, .slice none 0 0, .slice none 0 0] 37 (0, 0)) := (r5.block _ (by omega)).trans HZ.out.1
    have bw4 : Below w.heap.size w w4 := HZ.out.2.trans (r5.mono (by omega))
    have HQ : Hid (ErrOk o ∧ codeN o = (doP B E).1 ∧ OwnBook w4 w1.heap.size _ (doP B E).2 K' ∧ Below w.heap.size w w4) := ⟨r1, r2, r3, bw4⟩
    obtain ⟨p0, p1, p2, p3⟩ := box_cells bp4
    obtain ⟨q0, q1, q2, q3⟩ := box_cells x4
    have f0 : w4.frozen? ⟨w.heap.size + 1 + 1, 0, none⟩ = false := frozen_of_box x4
    have f1 : w4.frozen? ⟨w.heap.size + 1 + 1, 1, none⟩ = false := frozen_of_box x4
    have f2 : w4.frozen? ⟨w.heap.size + 1 + 1, 2, none⟩ = false := frozen_of_box x4
    have f3 : w4.frozen? ⟨w.heap.size + 1 + 1, 3, none⟩ = false := frozen_of_box x4
    clear r1 r2 r3 r5 bp4 x4 bw4 CH
    go_wp2
    refine bodyPost_ret (v := .tuple #[.agg #[.int .i64 (doP B E).2.n, .slice ao4 (doP B E).2.orders.length co4, .slice al4 (doP B E).2.locked.length cl4, .slice ac4 (doP B E).2.occ.length cc4], errO A o]) (by simp [results, Tryz.results26, go_sem, q0, q1, q2, q3]) rfl ⟨o, _, K', rfl, HQ.out.1, HQ.out.2.1, ?_, ?_⟩
    · refine OwnBook.mono (lo := w1.heap.size) ?_ (by omega)
      have t3 := HQ.out.2.2.1
      have lows : ∀ i, ∀ b, bookBlocks (doP B E).2 K' b → b ≠ (⟨w.heap.size + 1 + 1, i, none⟩ : Addr).block := fun i b hb => by have := t3.blocks_low hb; show b ≠ w.heap.size + 1 + 1; omega
      exact (((t3.setOther (lows 0) _).setOther (lows 1) _).setOther (lows 2) _).setOther (lows 3) _
    · have t4 := HQ.out.2.2.2
      repeat (refine below_set ?_ _ _ (by omega) _)
      exact t4
  · have HK : Hid (¬ EvOk B E) := hok
    have hg : w.heap.size + 1 + 1 ≠ 0 := by
      have : errG 0 < w.heap.size := World.block_lt_of_cell? _ _ (HG.out.2.2.1.v 0 (by omega))
      unfold errG at this
      omega
    clear hok hr m0 m1 m2 m3
    go_wp2
    go_region_held3 (fun w' => w'.cell? ⟨0, 0, none⟩ = some (errV A 0)) (go_keep) (fail)
    all_goals (
      go_wp2
      refine bodyPost_ret (v := .tuple #[.agg #[.int .i64 0, .slice none 0 0, .slice none 0 0, .slice none 0 0], errV A 0]) (by simp [results, Tryz.results26, go_sem, q0, q1, q2, q3]) rfl ⟨some 0, _, _, rfl, Or.inr (Or.inl rfl), by rw [doP_none HK.out]; rfl, by rw [doP_none HK.out]; exact ownBook_zero _ _, ?_⟩
      have t4 := HX.out.2.2.2
      refine Below.drew ?_
      repeat (refine below_set ?_ _ _ (by omega) _)
      exact t4)

/-- What Do answers. -/
def RetDo (e : Ending) (w w' : World) (B : Bk) (E : Ev) : Prop :=
  ∃ a b c d K, e = .returned (.agg #[.int .i64 (doP B E).1, a, b, c, d]) ∧ OwnBook w' w.heap.size (.agg #[a, b, c, d]) (doP B E).2 K ∧ Below w.heap.size w w'

set_option maxHeartbeats 8000000 in
theorem implDo_any (A : Nat → Addr) (v ve : Value) (B : Bk) (E : Ev) (w : World) (hE : Errs w A) (hT : Lib.TabIs Tryz.prog w "internal/strconv.uint64pow10" .u64 Lib.pow10Tab) (hsm : B.orders.length ≤ 1048576 ∧ ∀ i, i < B.orders.length → (bX B i).secs.length ≤ 1048576 ∧ (bX B i).holder.size ≤ 1048576)
    (he1 : E.holder.size ≤ 1048576) (he2 : E.text.size ≤ 1048576) (he3 : E.secs.length ≤ 1048576) (G : BookAt w v B) (GE : EvAt w ve E) :
    Calls Tryz.prog 18 #[v, ve] w fun e w' => RetDo e w w' B E := by
  have G0 := G
  have GE0 := GE
  obtain ⟨ao, co, al, cl, ac, cc, rfl, -⟩ := G
  obtain ⟨ad, ca, rfl, -⟩ := GE
  have HG : Hid (BookAt w (.agg #[.int .i64 B.n, .slice ao B.orders.length co, .slice al B.locked.length cl, .slice ac B.occ.length cc]) B ∧ EvAt w (.agg #[.int .i64 E.op, .int .i64 E.of_, .string E.holder, .int .i64 E.kind, .slice ad E.secs.length ca, .string E.text]) E ∧ Errs w A ∧ Lib.TabIs Tryz.prog w "internal/strconv.uint64pow10" .u64 Lib.pow10Tab) := ⟨G0, GE0, hE, hT⟩
  clear G0 GE0 hE hT
  have B3 : Below w.heap.size w (((w.alloc (.cells #[.int .i64 B.n, .slice ao B.orders.length co, .slice al B.locked.length cl, .slice ac B.occ.length cc] 37)).alloc (.cells #[.int .i64 E.op, .int .i64 E.of_, .string E.holder, .int .i64 E.kind, .slice ad E.secs.length ca, .string E.text] 32)).alloc (.cells #[.int .i64 0, .int .i64 0, .slice none 0 0, .slice none 0 0, .slice none 0 0] 39)) := below3 _ _ _ _
  have sz3 : (((w.alloc (.cells #[.int .i64 B.n, .slice ao B.orders.length co, .slice al B.locked.length cl, .slice ac B.occ.length cc] 37)).alloc (.cells #[.int .i64 E.op, .int .i64 E.of_, .string E.holder, .int .i64 E.kind, .slice ad E.secs.length ca, .string E.text] 32)).alloc (.cells #[.int .i64 0, .int .i64 0, .slice none 0 0, .slice none 0 0, .slice none 0 0] 39)).heap.size = w.heap.size + 3 := by simp
  go_enter Tryz.func18, Tryz.ntmps18
  go_wp2_with fail
  refine (behind_any A _ _ B E _ (HG.out.2.2.1.below B3) (tab_below HG.out.2.2.2 B3) hsm he1 he2 he3 (HG.out.1.below B3) (HG.out.2.1.below B3)).mono ?_
  rintro e w1 ⟨o, v1, K, rfl, r1, r2, r3, r4⟩
  rw [sz3] at r3 r4
  obtain ⟨ao4, co4, al4, cl4, ac4, cc4, hv4, -⟩ := r3.shape
  subst hv4
  have z1 : w.heap.size + 3 ≤ w1.heap.size := by have := r4.size; omega
  have x2 : w1.heap[w.heap.size + 1 + 1]? = some (.cells #[.int .i64 0, .int .i64 0, .slice none 0 0, .slice none 0 0, .slice none 0 0] 39 (0, 0)) := (r4.block _ (by omega)).trans (by
    have := Deep.blk_alloc_new ((w.alloc (.cells #[.int .i64 B.n, .slice ao B.orders.length co, .slice al B.locked.length cl, .slice ac B.occ.length cc] 37)).alloc (.cells #[.int .i64 E.op, .int .i64 E.of_, .string E.holder, .int .i64 E.kind, .slice ad E.secs.length ca, .string E.text] 32)) (.cells #[.int .i64 0, .int .i64 0, .slice none 0 0, .slice none 0 0, .slice none 0 0] 39)
    simpa using this)
  have bw1 : Below w.heap.size w w1 := B3.trans (r4.mono (by omega))
  have CT := codeOf_at A o (w1.alloc (.cells #[.int .i64 (doP B E).2.n, .slice ao4 (doP B E).2.orders.length co4, .slice al4 (doP B E).2.locked.length cl4, .slice ac4 (doP B E).2.occ.length cc4] 37)).drew ((HG.out.2.2.1.below (bw1.alloc bw1.size _)).below (Below.refl _ _).drew) r1
  obtain ⟨W, hW⟩ : ∃ W, W = w1.alloc (.cells #[.int .i64 (doP B E).2.n, .slice ao4 (doP B E).2.orders.length co4, .slice al4 (doP B E).2.locked.length cl4, .slice ac4 (doP B E).2.occ.length cc4] 37) := ⟨_, rfl⟩
  have zW : W.heap.size = w1.heap.size + 1 := by rw [hW]; exact alloc_size _ _
  have bW : Below w1.heap.size w1 W := by rw [hW]; exact below1 _ _
  have y2 : W.heap[w.heap.size + 1 + 1]? = some (.cells #[.int .i64 0, .int .i64 0, .slice none 0 0, .slice none 0 0, .slice none 0 0] 39 (0, 0)) := (bW.block _ (by omega)).trans x2
  have yb : W.heap[w1.heap.size]? = some (.cells #[.int .i64 (doP B E).2.n, .slice ao4 (doP B E).2.orders.length co4, .slice al4 (doP B E).2.locked.length cl4, .slice ac4 (doP B E).2.occ.length cc4] 37 (0, 0)) := by rw [hW]; exact Deep.blk_alloc_new _ _
  rw [← hW] at CT
  have HQ : Hid (codeN o = (doP B E).1 ∧ OwnBook W (w.heap.size + 3) (.agg #[.int .i64 (doP B E).2.n, .slice ao4 (doP B E).2.orders.length co4, .slice al4 (doP B E).2.locked.length cl4, .slice ac4 (doP B E).2.occ.length cc4]) (doP B E).2 K ∧ Below w.heap.size w W) := ⟨r2, r3.below bW, below_trans bw1 bw1.size bW⟩
  have HW : Hid (W = w1.alloc (.cells #[.int .i64 (doP B E).2.n, .slice ao4 (doP B E).2.orders.length co4, .slice al4 (doP B E).2.locked.length cl4, .slice ac4 (doP B E).2.occ.length cc4] 37)) := hW
  obtain ⟨b0, b1, b2, b3⟩ := box_cells yb
  obtain ⟨q0, q1, q2, q3, q4⟩ : W.cell? ⟨w.heap.size + 1 + 1, 0, none⟩ = some (.int .i64 0) ∧ W.cell? ⟨w.heap.size + 1 + 1, 1, none⟩ = some (.int .i64 0) ∧ W.cell? ⟨w.heap.size + 1 + 1, 2, none⟩ = some (.slice none 0 0) ∧ W.cell? ⟨w.heap.size + 1 + 1, 3, none⟩ = some (.slice none 0 0) ∧ W.cell? ⟨w.heap.size + 1 + 1, 4, none⟩ = some (.slice none 0 0) := ⟨cell_of_box y2 rfl, cell_of_box y2 rfl, cell_of_box y2 rfl, cell_of_box y2 rfl, cell_of_box y2 rfl⟩
  have f0 : W.frozen? ⟨w.heap.size + 1 + 1, 0, none⟩ = false := frozen_of_box y2
  have f1 : W.frozen? ⟨w.heap.size + 1 + 1, 1, none⟩ = false := frozen_of_box y2
  have f2 : W.frozen? ⟨w.heap.size + 1 + 1, 2, none⟩ = false := frozen_of_box y2
  have f3 : W.frozen? ⟨w.heap.size + 1 + 1, 3, none⟩ = false := frozen_of_box y2
  have f4 : W.frozen? ⟨w.heap.size + 1 + 1, 4, none⟩ = false := frozen_of_box y2
  have nez : w.heap.size + 1 + 1 ≠ w1.heap.size := by omega
  clear r1 r2 r3 r4 x2 bw1 zW bW y2 yb hW B3 sz3
  go_wp2
  rw [← HW.out]
  clear HW
  go_region_held3 (fun w' => w'.cell? ⟨w1.heap.size, 0, none⟩ = some (.int .i64 (doP B E).2.n) ∧ w'.cell? ⟨w1.heap.size, 1, none⟩ = some (.slice ao4 (doP B E).2.orders.length co4) ∧ w'.cell? ⟨w1.heap.size, 2, none⟩ = some (.slice al4 (doP B E).2.locked.length cl4) ∧ w'.cell? ⟨w1.heap.size, 3, none⟩ = some (.slice ac4 (doP B E).2.occ.length cc4)) (go_keep)
    (first | (go_at_call 29; refine CT.mono ?_; rintro e w' ⟨rfl, rfl⟩))
  all_goals (
    go_wp2
    rw [HQ.out.1]
    refine bodyPost_ret (v := .agg #[.int .i64 (doP B E).1, .int .i64 (doP B E).2.n, .slice ao4 (doP B E).2.orders.length co4, .slice al4 (doP B E).2.locked.length cl4, .slice ac4 (doP B E).2.occ.length cc4]) (by simp [results, Tryz.results18, go_sem, q0, q1, q2, q3, q4]) rfl ⟨_, _, _, _, K, rfl, ?_, ?_⟩)
  · have t3 := HQ.out.2.1.drew
    refine OwnBook.mono (lo := w.heap.size + 3) ?_ (by omega)
    have lows : ∀ i, ∀ b, bookBlocks (doP B E).2 K b → b ≠ (⟨w.heap.size + 1 + 1, i, none⟩ : Addr).block := fun i b hb => by have := t3.blocks_low hb; show b ≠ w.heap.size + 1 + 1; omega
    exact ((((t3.setOther (lows 0) _).setOther (lows 1) _).setOther (lows 2) _).setOther (lows 3) _).setOther (lows 4) _
  · have t4 := HQ.out.2.2
    refine Below.drew ?_
    repeat (refine below_set ?_ _ _ (by omega) _)
    exact t4

end Go.Proofs.YteifekoiognhmaaGreatDoor
