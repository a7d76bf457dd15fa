/-
  The contract of impl.happen. Mine, by program (wip/ido5.py), by template (wip/gen.py).
-/
import Derived.Test.YteifekoiognhmaaGreatDoorIDo4
import Derived.Test.YteifekoiognhmaaGreatDoorEvI
import Derived.Test.YteifekoiognhmaaGreatDoorEvA
namespace Go.Proofs.YteifekoiognhmaaGreatDoor
open Go.RowKit

/-- What holds ahead of an event that is done in the book that variable p holds. -/
structure HapPre (A : Nat → Addr) (w : World) (lo p : Nat) (v : Value) (B : Bk) (K : Blk) : Prop where
  errs : Errs w A
  tab : Lib.TabIs Tryz.prog w "internal/strconv.uint64pow10" .u64 Lib.pow10Tab
  book : RowBook w lo v B K
  box : BoxAt w p v
  np : ∀ b, bookBlocks B K b → b ≠ p
  lo_ : lo ≤ w.heap.size
  lp : lo ≤ p
  right : Right B
  sm : B.orders.length ≤ 1048576 ∧ ∀ i, i < B.orders.length → (bX B i).secs.length ≤ 1048576 ∧ (bX B i).holder.size ≤ 1048576

theorem BoxAt.below {w w' : World} {p : Nat} {v : Value} (h : BoxAt w p v) (hb : Below w.heap.size w w') : BoxAt w' p v := by
  obtain ⟨a, b, c, d, e, h⟩ := h
  exact ⟨a, b, c, d, e, (hb.block _ (Array.getElem?_eq_some_iff.1 h).1).trans h⟩

theorem HapPre.below {A : Nat → Addr} {w w' : World} {lo p : Nat} {v : Value} {B : Bk} {K : Blk} (h : HapPre A w lo p v B K) (hb : Below w.heap.size w w') : HapPre A w' lo p v B K :=
  ⟨h.errs.below hb, tab_below h.tab hb, h.book.below hb, h.box.below hb, h.np, Nat.le_trans h.lo_ hb.size, h.lp, h.right, h.sm⟩

theorem RetY.from {A : Nat → Addr} {e : Ending} {w W w' : World} {lo p : Nat} {r : Int × Bk} (h : RetY A e W w' lo p r) (hb : Below w.heap.size w W) (hlo : lo ≤ w.heap.size) : RetY A e w w' lo p r := by
  obtain ⟨o, v, K, h1, h2, h3, h4, h5, h6⟩ := h
  exact ⟨o, v, K, h1, h2, h3, h4, h5, (hb.mono hlo).trans h6⟩

/-- The book's shape, its orders' block where it has orders. -/
theorem HapPre.shape {A : Nat → Addr} {w : World} {lo p : Nat} {v : Value} {B : Bk} {K : Blk} (h : HapPre A w lo p v B K) : ∃ ao co al cl ac cc, v = .agg #[.int .i64 B.n, .slice ao B.orders.length co, .slice al B.locked.length cl, .slice ac B.occ.length cc] ∧ w.heap[p]? = some (.cells #[.int .i64 B.n, .slice ao B.orders.length co, .slice al B.locked.length cl, .slice ac B.occ.length cc] 37 (0, 0)) ∧
    (0 < B.orders.length → ao = some ⟨K.G, 0, none⟩) ∧ (0 < B.locked.length → al = some ⟨K.L, 0, none⟩) ∧ (0 < B.occ.length → ac = some ⟨K.C, 0, none⟩) := by
  obtain ⟨ao, co, al, cl, ac, cc, rfl, h1, h2, h3⟩ := h.book.own.shape
  obtain ⟨a, b, c, d, e, hb⟩ := h.box
  simp only [Value.agg.injEq, Array.mk.injEq, List.cons.injEq, and_true] at e
  obtain ⟨rfl, rfl, rfl, rfl⟩ := e
  exact ⟨ao, co, al, cl, ac, cc, rfl, hb, h1.head, h2.head, h3.head⟩


set_option maxHeartbeats 4000000 in
theorem happen_1 (A : Nat → Addr) (v : Value) (B : Bk) (K : Blk) (lo p : Nat) (E : Ev) (ad : Option Addr) (c : Nat) (w : World) (h : HapPre A w lo p v B K) (hok : EvOk B E) (ho : E.op = 1) (hes : E.secs.length ≤ 1048576) (G : Cells w ad E.secs.length (iV E.secs)) :
    Calls Tryz.prog 55 #[.pointer (some ⟨p, 0, none⟩), .iface 110 (.agg #[.string E.holder, .int .i64 E.kind, .slice ad E.secs.length c, .int .i64 1])] w fun e w' => RetY A e w w' lo p (doP B E) := by
  have B1 : Below w.heap.size w (w.alloc (.cells #[.string E.holder, .int .i64 E.kind, .slice ad E.secs.length c, .int .i64 1] 110)) := below1 _ _
  have H1 := h.below B1
  have HG : Hid (Cells w ad E.secs.length (iV E.secs) ∧ EvOk B E ∧ E.op = 1 ∧ lo ≤ w.heap.size) := ⟨G, hok, ho, h.lo_⟩
  have as0 := Tryz.as_writing_writing (.string E.holder) (.int .i64 E.kind) (.slice ad E.secs.length c) (.int .i64 1)
  have CT := (writeOrd_any A v B K lo p (eOrd E) ad c (w.alloc (.cells #[.string E.holder, .int .i64 E.kind, .slice ad E.secs.length c, .int .i64 1] 110)) H1.errs H1.book H1.box H1.np H1.lo_ H1.lp H1.right.1.2.2.2 hes (HG.out.1.below B1))
  have CY : Calls Tryz.prog 71 #[.pointer (some ⟨p, 0, none⟩), .agg #[.string E.holder, .int .i64 E.kind, .slice ad E.secs.length c, .int .i64 1]] (w.alloc (.cells #[.string E.holder, .int .i64 E.kind, .slice ad E.secs.length c, .int .i64 1] 110)) fun e w' => RetY A e w w' lo p (doP B E) := CT.mono (fun e w' q => by rw [doP_write hok ho]; exact RetY.from q B1 h.lo_)
  clear CT H1 h hok B1 G
  go_enter Tryz.func55, Tryz.ntmps55
  go_wp2_with (go_at_call 71; refine CY.mono ?_; rintro e w' ⟨o, v', K', rfl, q1, q2, q3, q4, q5⟩; have HQ : Hid (ErrOk o ∧ codeN o = (doP B E).1 ∧ OwnBook w' lo v' (doP B E).2 K' ∧ BoxAt w' p v' ∧ Below lo w w') := ⟨q1, q2, q3, q4, q5⟩; clear q1 q2 q3 q4 q5)
  go_ret
  exact ⟨o, v', K', rfl, HQ.out.1, HQ.out.2.1, HQ.out.2.2.1, HQ.out.2.2.2.1, HQ.out.2.2.2.2⟩

set_option maxHeartbeats 4000000 in
theorem happen_2 (A : Nat → Addr) (v : Value) (B : Bk) (K : Blk) (lo p : Nat) (E : Ev) (ad : Option Addr) (_c : Nat) (w : World) (h : HapPre A w lo p v B K) (hok : EvOk B E) (ho : E.op = 2) (_hes : E.secs.length ≤ 1048576) (G : Cells w ad E.secs.length (iV E.secs)) :
    Calls Tryz.prog 55 #[.pointer (some ⟨p, 0, none⟩), .iface 112 (.agg #[.int .i64 E.of_])] w fun e w' => RetY A e w w' lo p (doP B E) := by
  have hin := (EvOk.at25 hok (Or.inl ho)).1
  obtain ⟨m, hmo⟩ : ∃ m : Nat, E.of_ = (m : Int) := ⟨E.of_.toNat, by have := hin.1; omega⟩
  have hm : m < B.orders.length := by have := hin.2; omega
  have hmt : E.of_.toNat = m := by omega
  have B1 : Below w.heap.size w (w.alloc (.cells #[.int .i64 E.of_] 112)) := below1 _ _
  have H1 := h.below B1
  have HG : Hid (Cells w ad E.secs.length (iV E.secs) ∧ EvOk B E ∧ E.op = 2 ∧ lo ≤ w.heap.size) := ⟨G, hok, ho, h.lo_⟩
  have as0 := Tryz.as_giving_writing (.int .i64 E.of_)
  have as1 := Tryz.as_giving_giving (.int .i64 E.of_)
  have CT := (give_any A v B K lo p m (w.alloc (.cells #[.int .i64 E.of_] 112)) H1.errs H1.book.own H1.box H1.right hm)
  have CY : Calls Tryz.prog 72 #[.pointer (some ⟨p, 0, none⟩), .int .i64 (m : Int)] (w.alloc (.cells #[.int .i64 E.of_] 112)) fun e w' => RetY A e w w' lo p (doP B E) := CT.mono (fun e w' q => by rw [doP_give hok ho, hmt]; exact (q.toY H1.book.own H1.box H1.np H1.lo_).from B1 h.lo_)
  rw [← hmo] at CY
  clear CT H1 h hok B1 G hmo hmt hin hm
  go_enter Tryz.func55, Tryz.ntmps55
  go_wp2_with (go_at_call 72; refine CY.mono ?_; rintro e w' ⟨o, v', K', rfl, q1, q2, q3, q4, q5⟩; have HQ : Hid (ErrOk o ∧ codeN o = (doP B E).1 ∧ OwnBook w' lo v' (doP B E).2 K' ∧ BoxAt w' p v' ∧ Below lo w w') := ⟨q1, q2, q3, q4, q5⟩; clear q1 q2 q3 q4 q5)
  go_ret
  exact ⟨o, v', K', rfl, HQ.out.1, HQ.out.2.1, HQ.out.2.2.1, HQ.out.2.2.2.1, HQ.out.2.2.2.2⟩

set_option maxHeartbeats 4000000 in
theorem happen_3 (A : Nat → Addr) (v : Value) (B : Bk) (K : Blk) (lo p : Nat) (E : Ev) (ad : Option Addr) (_c : Nat) (w : World) (h : HapPre A w lo p v B K) (hok : EvOk B E) (ho : E.op = 3) (_hes : E.secs.length ≤ 1048576) (G : Cells w ad E.secs.length (iV E.secs)) :
    Calls Tryz.prog 55 #[.pointer (some ⟨p, 0, none⟩), .iface 114 (.agg #[.int .i64 E.of_, .string E.holder, .string E.text])] w fun e w' => RetY A e w w' lo p (doP B E) := by
  have hin := (EvOk.at3 hok ho).1
  obtain ⟨m, hmo⟩ : ∃ m : Nat, E.of_ = (m : Int) := ⟨E.of_.toNat, by have := hin.1; omega⟩
  have hm : m < B.orders.length := by have := hin.2; omega
  have hmt : E.of_.toNat = m := by omega
  have B1 : Below w.heap.size w (w.alloc (.cells #[.int .i64 E.of_, .string E.holder, .string E.text] 114)) := below1 _ _
  have H1 := h.below B1
  have HG : Hid (Cells w ad E.secs.length (iV E.secs) ∧ EvOk B E ∧ E.op = 3 ∧ lo ≤ w.heap.size) := ⟨G, hok, ho, h.lo_⟩
  have as0 := Tryz.as_repeating_writing (.int .i64 E.of_) (.string E.holder) (.string E.text)
  have as1 := Tryz.as_repeating_giving (.int .i64 E.of_) (.string E.holder) (.string E.text)
  have as2 := Tryz.as_repeating_repeating (.int .i64 E.of_) (.string E.holder) (.string E.text)
  have CT := (repeat_any A v B K lo p m E.holder E.text (w.alloc (.cells #[.int .i64 E.of_, .string E.holder, .string E.text] 114)) H1.errs H1.tab H1.book.own H1.box H1.right hm H1.sm)
  have CY : Calls Tryz.prog 73 #[.pointer (some ⟨p, 0, none⟩), .agg #[.int .i64 (m : Int), .string E.holder, .string E.text]] (w.alloc (.cells #[.int .i64 E.of_, .string E.holder, .string E.text] 114)) fun e w' => RetY A e w w' lo p (doP B E) := CT.mono (fun e w' q => by rw [doP_repeat hok ho, hmt]; exact (q.toY H1.book.own H1.box H1.np H1.lo_).from B1 h.lo_)
  rw [← hmo] at CY
  clear CT H1 h hok B1 G hmo hmt hin hm
  go_enter Tryz.func55, Tryz.ntmps55
  go_wp2_with (go_at_call 73; refine CY.mono ?_; rintro e w' ⟨o, v', K', rfl, q1, q2, q3, q4, q5⟩; have HQ : Hid (ErrOk o ∧ codeN o = (doP B E).1 ∧ OwnBook w' lo v' (doP B E).2 K' ∧ BoxAt w' p v' ∧ Below lo w w') := ⟨q1, q2, q3, q4, q5⟩; clear q1 q2 q3 q4 q5)
  go_ret
  exact ⟨o, v', K', rfl, HQ.out.1, HQ.out.2.1, HQ.out.2.2.1, HQ.out.2.2.2.1, HQ.out.2.2.2.2⟩

set_option maxHeartbeats 4000000 in
theorem happen_4 (A : Nat → Addr) (v : Value) (B : Bk) (K : Blk) (lo p : Nat) (E : Ev) (ad : Option Addr) (_c : Nat) (w : World) (h : HapPre A w lo p v B K) (hok : EvOk B E) (ho : E.op = 4) (_hes : E.secs.length ≤ 1048576) (G : Cells w ad E.secs.length (iV E.secs)) :
    Calls Tryz.prog 55 #[.pointer (some ⟨p, 0, none⟩), .iface 116 (.agg #[.int .i64 E.of_, .string E.holder])] w fun e w' => RetY A e w w' lo p (doP B E) := by
  have hin := (EvOk.at4 hok ho).1
  obtain ⟨m, hmo⟩ : ∃ m : Nat, E.of_ = (m : Int) := ⟨E.of_.toNat, by have := hin.1; omega⟩
  have hm : m < B.orders.length := by have := hin.2; omega
  have hmt : E.of_.toNat = m := by omega
  have B1 : Below w.heap.size w (w.alloc (.cells #[.int .i64 E.of_, .string E.holder] 116)) := below1 _ _
  have H1 := h.below B1
  have HG : Hid (Cells w ad E.secs.length (iV E.secs) ∧ EvOk B E ∧ E.op = 4 ∧ lo ≤ w.heap.size) := ⟨G, hok, ho, h.lo_⟩
  have as0 := Tryz.as_givingBack_writing (.int .i64 E.of_) (.string E.holder)
  have as1 := Tryz.as_givingBack_giving (.int .i64 E.of_) (.string E.holder)
  have as2 := Tryz.as_givingBack_repeating (.int .i64 E.of_) (.string E.holder)
  have as3 := Tryz.as_givingBack_givingBack (.int .i64 E.of_) (.string E.holder)
  obtain ⟨ao, co, al, cl, ac, cc, rfl, bx1, hao, hal, hac⟩ := H1.shape
  obtain ⟨o0, o1, o2, o3⟩ := box_cells bx1
  have bh1 : (w.alloc (.cells #[.int .i64 E.of_, .string E.holder] 116)).heap[w.heap.size]? = some (.cells #[.int .i64 E.of_, .string E.holder] 116 (0, 0)) := Deep.blk_alloc_new _ _
  have n0 : (w.alloc (.cells #[.int .i64 E.of_, .string E.holder] 116)).cell? ⟨w.heap.size, 0, none⟩ = some (.int .i64 E.of_) := cell_of_box bh1 rfl
  have n1 : (w.alloc (.cells #[.int .i64 E.of_, .string E.holder] 116)).cell? ⟨w.heap.size, 1, none⟩ = some (.string E.holder) := cell_of_box bh1 rfl
  have bh2 := bh1
  have zp : p < (w.alloc (.cells #[.int .i64 E.of_, .string E.holder] 116)).heap.size := (Array.getElem?_eq_some_iff.1 bx1).1
  have bkw : ∀ b, bookBlocks B K b → b < w.heap.size := fun b hb => h.book.own.blocks_lt hb
  have hG : ao = some ⟨K.G, 0, none⟩ := hao (by omega)
  subst hG
  have hm0 : (0 : Int) ≤ (m : Int) := by omega
  have hm1 : (m : Int) < (B.orders.length : Int) := by omega
  obtain ⟨W, hW⟩ : ∃ W, W = (w.alloc (.cells #[.int .i64 E.of_, .string E.holder] 116)) := ⟨_, rfl⟩
  have HW : Hid (W = (w.alloc (.cells #[.int .i64 E.of_, .string E.holder] 116)) ∧ E.of_ = (m : Int)) := ⟨hW, hmo⟩
  clear hW hmo
  go_enter Tryz.func55, Tryz.ntmps55
  go_wp2
  obtain ⟨hW, hmo⟩ := HW.out
  clear HW
  rw [← hW] at H1 B1 bx1 bh1 n0 n1 o1 zp ⊢
  rw [hmo] at n0
  clear bh2 o0 o2 o3 hao hal hac
  have HP : Hid (HapPre A W lo p (.agg #[.int .i64 B.n, .slice (some ⟨K.G, 0, none⟩) B.orders.length co, .slice al B.locked.length cl, .slice ac B.occ.length cc]) B K ∧ Below w.heap.size w W ∧ W.heap[p]? = some (.cells #[.int .i64 B.n, .slice (some ⟨K.G, 0, none⟩) B.orders.length co, .slice al B.locked.length cl, .slice ac B.occ.length cc] 37 (0, 0)) ∧ W.heap[w.heap.size]? = some (.cells #[.int .i64 E.of_, .string E.holder] 116 (0, 0)) ∧ (∀ b, bookBlocks B K b → b < w.heap.size) ∧ E.of_ = (m : Int)) := ⟨H1, B1, bx1, bh1, bkw, hmo⟩
  have zW : w.heap.size < W.heap.size := by rw [hW]; simp
  clear H1 B1 bx1 bh1 bkw hW h hok hin
  rw [hmo]
  clear hmo
  go_region_held3 (fun w' => w'.cell? ⟨p, 1, none⟩ = some (.slice (some ⟨K.G, 0, none⟩) B.orders.length co) ∧ w'.cell? ⟨w.heap.size, 0, none⟩ = some (.int .i64 (m : Int)) ∧ w'.cell? ⟨w.heap.size, 1, none⟩ = some (.string E.holder)) (go_keep)
    (first | (go_at_call 74; refine (giveBack_any A _ B K lo m E.holder _ (HP.out.1.errs.below (Below.refl _ _).drew) HP.out.1.book.own.drew hm).mono ?_; rintro e w' ⟨o, rfl, q1, q2, q3, hf0⟩; have hf := (Fr.of_below (S := bookBlocks B K) (Below.refl W.heap.size W).drew).trans hf0; have kB := hf.block _ zp (fun q => HP.out.1.np _ q rfl); have kH := hf.block _ zW (fun q => by have := HP.out.2.2.2.2.1 _ q; omega); have k1 : w'.cell? ⟨p, 1, none⟩ = some (.slice (some ⟨K.G, 0, none⟩) B.orders.length co) := (World.cell?_of_block kB).trans o1; have k2 : w'.cell? ⟨w.heap.size, 0, none⟩ = some (.int .i64 (m : Int)) := (World.cell?_of_block kH).trans n0; have k3 : w'.cell? ⟨w.heap.size, 1, none⟩ = some (.string E.holder) := (World.cell?_of_block kH).trans n1; have HQ : Hid (ErrOk o ∧ codeN o = (doBack B m E.holder).1 ∧ OwnBook w' lo _ (doBack B m E.holder).2 K ∧ Fr (bookBlocks B K) W w') := ⟨q1, q2, q3, hf⟩; clear q1 q2 q3 hf0 kB kH hf))
  go_wp2
  go_ret
  rw [doP_back HG.out.2.1 HG.out.2.2.1, hmt]
  exact (RetX.toY ⟨o, rfl, HQ.out.1, HQ.out.2.1, HQ.out.2.2.1, HQ.out.2.2.2⟩ HP.out.1.book.own HP.out.1.box HP.out.1.np HP.out.1.lo_).from HP.out.2.1 HG.out.2.2.2

set_option maxHeartbeats 4000000 in
theorem happen_5 (A : Nat → Addr) (v : Value) (B : Bk) (K : Blk) (lo p : Nat) (E : Ev) (ad : Option Addr) (_c : Nat) (w : World) (h : HapPre A w lo p v B K) (hok : EvOk B E) (ho : E.op = 5) (_hes : E.secs.length ≤ 1048576) (G : Cells w ad E.secs.length (iV E.secs)) :
    Calls Tryz.prog 55 #[.pointer (some ⟨p, 0, none⟩), .iface 117 (.agg #[.int .i64 E.of_])] w fun e w' => RetY A e w w' lo p (doP B E) := by
  have hin := (EvOk.at25 hok (Or.inr ho)).1
  obtain ⟨m, hmo⟩ : ∃ m : Nat, E.of_ = (m : Int) := ⟨E.of_.toNat, by have := hin.1; omega⟩
  have hm : m < B.orders.length := by have := hin.2; omega
  have hmt : E.of_.toNat = m := by omega
  have B1 : Below w.heap.size w (w.alloc (.cells #[.int .i64 E.of_] 117)) := below1 _ _
  have H1 := h.below B1
  have HG : Hid (Cells w ad E.secs.length (iV E.secs) ∧ EvOk B E ∧ E.op = 5 ∧ lo ≤ w.heap.size) := ⟨G, hok, ho, h.lo_⟩
  have as0 := Tryz.as_cancelling_writing (.int .i64 E.of_)
  have as1 := Tryz.as_cancelling_giving (.int .i64 E.of_)
  have as2 := Tryz.as_cancelling_repeating (.int .i64 E.of_)
  have as3 := Tryz.as_cancelling_givingBack (.int .i64 E.of_)
  have as4 := Tryz.as_cancelling_cancelling (.int .i64 E.of_)
  obtain ⟨ao, co, al, cl, ac, cc, rfl, bx1, hao, hal, hac⟩ := H1.shape
  obtain ⟨o0, o1, o2, o3⟩ := box_cells bx1
  have bh1 : (w.alloc (.cells #[.int .i64 E.of_] 117)).heap[w.heap.size]? = some (.cells #[.int .i64 E.of_] 117 (0, 0)) := Deep.blk_alloc_new _ _
  have n0 : (w.alloc (.cells #[.int .i64 E.of_] 117)).cell? ⟨w.heap.size, 0, none⟩ = some (.int .i64 E.of_) := cell_of_box bh1 rfl
  have bh2 := bh1
  have zp : p < (w.alloc (.cells #[.int .i64 E.of_] 117)).heap.size := (Array.getElem?_eq_some_iff.1 bx1).1
  have bkw : ∀ b, bookBlocks B K b → b < w.heap.size := fun b hb => h.book.own.blocks_lt hb
  have hG : ao = some ⟨K.G, 0, none⟩ := hao (by omega)
  subst hG
  have hm0 : (0 : Int) ≤ (m : Int) := by omega
  have hm1 : (m : Int) < (B.orders.length : Int) := by omega
  obtain ⟨W, hW⟩ : ∃ W, W = (w.alloc (.cells #[.int .i64 E.of_] 117)) := ⟨_, rfl⟩
  have HW : Hid (W = (w.alloc (.cells #[.int .i64 E.of_] 117)) ∧ E.of_ = (m : Int)) := ⟨hW, hmo⟩
  clear hW hmo
  go_enter Tryz.func55, Tryz.ntmps55
  go_wp2
  obtain ⟨hW, hmo⟩ := HW.out
  clear HW
  rw [← hW] at H1 B1 bx1 bh1 n0 o1 zp ⊢
  rw [hmo] at n0
  clear bh2 o0 o2 o3 hao hal hac
  have HP : Hid (HapPre A W lo p (.agg #[.int .i64 B.n, .slice (some ⟨K.G, 0, none⟩) B.orders.length co, .slice al B.locked.length cl, .slice ac B.occ.length cc]) B K ∧ Below w.heap.size w W ∧ W.heap[p]? = some (.cells #[.int .i64 B.n, .slice (some ⟨K.G, 0, none⟩) B.orders.length co, .slice al B.locked.length cl, .slice ac B.occ.length cc] 37 (0, 0)) ∧ W.heap[w.heap.size]? = some (.cells #[.int .i64 E.of_] 117 (0, 0)) ∧ (∀ b, bookBlocks B K b → b < w.heap.size) ∧ E.of_ = (m : Int)) := ⟨H1, B1, bx1, bh1, bkw, hmo⟩
  have zW : w.heap.size < W.heap.size := by rw [hW]; simp
  clear H1 B1 bx1 bh1 bkw hW h hok hin
  rw [hmo]
  clear hmo
  go_region_held3 (fun w' => w'.cell? ⟨p, 1, none⟩ = some (.slice (some ⟨K.G, 0, none⟩) B.orders.length co) ∧ w'.cell? ⟨w.heap.size, 0, none⟩ = some (.int .i64 (m : Int))) (go_keep)
    (first | (go_at_call 75; refine (cancel_any A _ B K lo m _ (HP.out.1.errs.below (Below.refl _ _).drew) HP.out.1.book.own.drew hm).mono ?_; rintro e w' ⟨o, rfl, q1, q2, q3, hf0⟩; have hf := (Fr.of_below (S := bookBlocks B K) (Below.refl W.heap.size W).drew).trans hf0; have kB := hf.block _ zp (fun q => HP.out.1.np _ q rfl); have kH := hf.block _ zW (fun q => by have := HP.out.2.2.2.2.1 _ q; omega); have k1 : w'.cell? ⟨p, 1, none⟩ = some (.slice (some ⟨K.G, 0, none⟩) B.orders.length co) := (World.cell?_of_block kB).trans o1; have k2 : w'.cell? ⟨w.heap.size, 0, none⟩ = some (.int .i64 (m : Int)) := (World.cell?_of_block kH).trans n0; have HQ : Hid (ErrOk o ∧ codeN o = (doCancel B m).1 ∧ OwnBook w' lo _ (doCancel B m).2 K ∧ Fr (bookBlocks B K) W w') := ⟨q1, q2, q3, hf⟩; clear q1 q2 q3 hf0 kB kH hf))
  go_wp2
  go_ret
  rw [doP_cancel HG.out.2.1 HG.out.2.2.1, hmt]
  exact (RetX.toY ⟨o, rfl, HQ.out.1, HQ.out.2.1, HQ.out.2.2.1, HQ.out.2.2.2⟩ HP.out.1.book.own HP.out.1.box HP.out.1.np HP.out.1.lo_).from HP.out.2.1 HG.out.2.2.2

set_option maxHeartbeats 4000000 in
theorem happen_6 (A : Nat → Addr) (v : Value) (B : Bk) (K : Blk) (lo p : Nat) (E : Ev) (ad : Option Addr) (_c : Nat) (w : World) (h : HapPre A w lo p v B K) (hok : EvOk B E) (ho : E.op = 6) (_hes : E.secs.length ≤ 1048576) (G : Cells w ad E.secs.length (iV E.secs)) :
    Calls Tryz.prog 55 #[.pointer (some ⟨p, 0, none⟩), .iface 119 (.agg #[.int .i64 E.of_])] w fun e w' => RetY A e w w' lo p (doP B E) := by
  have B1 : Below w.heap.size w (w.alloc (.cells #[.int .i64 E.of_] 119)) := below1 _ _
  have H1 := h.below B1
  have HG : Hid (Cells w ad E.secs.length (iV E.secs) ∧ EvOk B E ∧ E.op = 6 ∧ lo ≤ w.heap.size) := ⟨G, hok, ho, h.lo_⟩
  have as0 := Tryz.as_locking_writing (.int .i64 E.of_)
  have as1 := Tryz.as_locking_giving (.int .i64 E.of_)
  have as2 := Tryz.as_locking_repeating (.int .i64 E.of_)
  have as3 := Tryz.as_locking_givingBack (.int .i64 E.of_)
  have as4 := Tryz.as_locking_cancelling (.int .i64 E.of_)
  have as5 := Tryz.as_locking_locking (.int .i64 E.of_)
  have CT := (lock_any A v B K lo p E.of_ (w.alloc (.cells #[.int .i64 E.of_] 119)) H1.errs H1.book.own H1.box H1.right (EvOk.at6 hok (show In E.op 6 9 by rw [ho]; exact ⟨by omega, by omega⟩)).1 H1.sm)
  have CY : Calls Tryz.prog 76 #[.pointer (some ⟨p, 0, none⟩), .int .i64 E.of_] (w.alloc (.cells #[.int .i64 E.of_] 119)) fun e w' => RetY A e w w' lo p (doP B E) := CT.mono (fun e w' q => by rw [doP_lock hok ho]; exact (q.toY H1.book.own H1.box H1.np H1.lo_).from B1 h.lo_)
  clear CT H1 h hok B1 G
  go_enter Tryz.func55, Tryz.ntmps55
  go_wp2_with (go_at_call 76; refine CY.mono ?_; rintro e w' ⟨o, v', K', rfl, q1, q2, q3, q4, q5⟩; have HQ : Hid (ErrOk o ∧ codeN o = (doP B E).1 ∧ OwnBook w' lo v' (doP B E).2 K' ∧ BoxAt w' p v' ∧ Below lo w w') := ⟨q1, q2, q3, q4, q5⟩; clear q1 q2 q3 q4 q5)
  go_ret
  exact ⟨o, v', K', rfl, HQ.out.1, HQ.out.2.1, HQ.out.2.2.1, HQ.out.2.2.2.1, HQ.out.2.2.2.2⟩

set_option maxHeartbeats 4000000 in
theorem happen_7 (A : Nat → Addr) (v : Value) (B : Bk) (K : Blk) (lo p : Nat) (E : Ev) (ad : Option Addr) (_c : Nat) (w : World) (h : HapPre A w lo p v B K) (hok : EvOk B E) (ho : E.op = 7) (_hes : E.secs.length ≤ 1048576) (G : Cells w ad E.secs.length (iV E.secs)) :
    Calls Tryz.prog 55 #[.pointer (some ⟨p, 0, none⟩), .iface 120 (.agg #[.int .i64 E.of_])] w fun e w' => RetY A e w w' lo p (doP B E) := by
  have hin := (EvOk.at6 hok (show In E.op 6 9 by rw [ho]; exact ⟨by omega, by omega⟩)).1
  obtain ⟨m, hmo⟩ : ∃ m : Nat, E.of_ = (m : Int) := ⟨E.of_.toNat, by have := hin.1; omega⟩
  have hm : m < B.locked.length := by have := hin.2; have := h.right.1.2.1; omega
  have hmt : E.of_.toNat = m := by omega
  have hm0 : (0 : Int) ≤ (m : Int) := by omega
  have hm1 : (m : Int) < (B.locked.length : Int) := by omega
  have B1 : Below w.heap.size w (w.alloc (.cells #[.int .i64 E.of_] 120)) := below1 _ _
  have H1 := h.below B1
  have HG : Hid (Cells w ad E.secs.length (iV E.secs) ∧ EvOk B E ∧ E.op = 7 ∧ lo ≤ w.heap.size) := ⟨G, hok, ho, h.lo_⟩
  have as0 := Tryz.as_unlocking_writing (.int .i64 E.of_)
  have as1 := Tryz.as_unlocking_giving (.int .i64 E.of_)
  have as2 := Tryz.as_unlocking_repeating (.int .i64 E.of_)
  have as3 := Tryz.as_unlocking_givingBack (.int .i64 E.of_)
  have as4 := Tryz.as_unlocking_cancelling (.int .i64 E.of_)
  have as5 := Tryz.as_unlocking_locking (.int .i64 E.of_)
  have as6 := Tryz.as_unlocking_unlocking (.int .i64 E.of_)
  obtain ⟨ao, co, al, cl, ac, cc, rfl, bx1, hao, hal, hac⟩ := H1.shape
  obtain ⟨o0, o1, o2, o3⟩ := box_cells bx1
  have bh1 : (w.alloc (.cells #[.int .i64 E.of_] 120)).heap[w.heap.size]? = some (.cells #[.int .i64 E.of_] 120 (0, 0)) := Deep.blk_alloc_new _ _
  have n0 : (w.alloc (.cells #[.int .i64 E.of_] 120)).cell? ⟨w.heap.size, 0, none⟩ = some (.int .i64 E.of_) := cell_of_box bh1 rfl
  have bh2 := bh1
  have zp : p < (w.alloc (.cells #[.int .i64 E.of_] 120)).heap.size := (Array.getElem?_eq_some_iff.1 bx1).1
  have bkw : ∀ b, bookBlocks B K b → b < w.heap.size := fun b hb => h.book.own.blocks_lt hb
  have hV : al = some ⟨K.L, 0, none⟩ := hal (by omega)
  subst hV
  obtain ⟨W, hW⟩ : ∃ W, W = (w.alloc (.cells #[.int .i64 E.of_] 120)) := ⟨_, rfl⟩
  have HW : Hid (W = (w.alloc (.cells #[.int .i64 E.of_] 120)) ∧ E.of_ = (m : Int)) := ⟨hW, hmo⟩
  clear hW hmo
  go_enter Tryz.func55, Tryz.ntmps55
  go_wp2
  obtain ⟨hW, hmo⟩ := HW.out
  clear HW
  rw [← hW] at H1 B1 bx1 bh1 n0 o2 zp ⊢
  rw [hmo] at n0
  clear bh2 o0 o1 o3
  obtain ⟨_, _, _, _, _, _, ev, -, h2, h3⟩ := H1.book.own.shape
  simp only [Value.agg.injEq, Array.mk.injEq, List.cons.injEq, Value.slice.injEq, and_true, true_and] at ev
  obtain ⟨⟨rfl, rfl⟩, ⟨rfl, rfl⟩, ⟨rfl, rfl⟩⟩ := ev
  have l1 : W.cell? ⟨K.L, m, none⟩ = some (.bool (B.locked.getD m false)) := (h2.row (by omega)).cell hm
  have l2 : W.frozen? ⟨K.L, m, none⟩ = false := (h2.row (by omega)).frozen m
  have hbk : bookBlocks B K K.L := Or.inr (Or.inl ⟨by omega, rfl⟩)
  have ne1 : K.L ≠ p := H1.np _ hbk
  have ne2 : K.L ≠ w.heap.size := by have := bkw _ hbk; omega
  have HP : Hid (HapPre A W lo p _ B K ∧ Below w.heap.size w W ∧ bookBlocks B K K.L) := ⟨H1, B1, hbk⟩
  clear bx1 bh1 bkw hW hok hin h2 h3 hbk H1 B1
  rw [hmo]
  clear hmo
  go_region_held3 (fun w' => w'.cell? ⟨p, 2, none⟩ = some (.slice (some ⟨K.L, 0, none⟩) B.locked.length cl) ∧ w'.cell? ⟨w.heap.size, 0, none⟩ = some (.int .i64 (m : Int))) (go_keep) (fail)
  go_wp2
  go_ret
  rw [doP_unlock HG.out.2.1 HG.out.2.2.1, hmt]
  exact (RetX.toY (K := K) (B := B) ⟨none, rfl, Or.inl rfl, rfl, HP.out.1.book.own.drew.setLock hm false, (Fr.of_below (S := bookBlocks B K) (Below.refl W.heap.size W).drew).setCell (p := ⟨K.L, m, none⟩) HP.out.2.2 _⟩ HP.out.1.book.own HP.out.1.box HP.out.1.np HP.out.1.lo_).from HP.out.2.1 HG.out.2.2.2

set_option maxHeartbeats 4000000 in
theorem happen_8 (A : Nat → Addr) (v : Value) (B : Bk) (K : Blk) (lo p : Nat) (E : Ev) (ad : Option Addr) (_c : Nat) (w : World) (h : HapPre A w lo p v B K) (hok : EvOk B E) (ho : E.op = 8) (_hes : E.secs.length ≤ 1048576) (G : Cells w ad E.secs.length (iV E.secs)) :
    Calls Tryz.prog 55 #[.pointer (some ⟨p, 0, none⟩), .iface 121 (.agg #[.int .i64 E.of_])] w fun e w' => RetY A e w w' lo p (doP B E) := by
  have hin := (EvOk.at6 hok (show In E.op 6 9 by rw [ho]; exact ⟨by omega, by omega⟩)).1
  obtain ⟨m, hmo⟩ : ∃ m : Nat, E.of_ = (m : Int) := ⟨E.of_.toNat, by have := hin.1; omega⟩
  have hm : m < B.occ.length := by have := hin.2; have := h.right.1.2.2.1; omega
  have hmt : E.of_.toNat = m := by omega
  have hm0 : (0 : Int) ≤ (m : Int) := by omega
  have hm1 : (m : Int) < (B.occ.length : Int) := by omega
  have B1 : Below w.heap.size w (w.alloc (.cells #[.int .i64 E.of_] 121)) := below1 _ _
  have H1 := h.below B1
  have HG : Hid (Cells w ad E.secs.length (iV E.secs) ∧ EvOk B E ∧ E.op = 8 ∧ lo ≤ w.heap.size) := ⟨G, hok, ho, h.lo_⟩
  have as0 := Tryz.as_coming_writing (.int .i64 E.of_)
  have as1 := Tryz.as_coming_giving (.int .i64 E.of_)
  have as2 := Tryz.as_coming_repeating (.int .i64 E.of_)
  have as3 := Tryz.as_coming_givingBack (.int .i64 E.of_)
  have as4 := Tryz.as_coming_cancelling (.int .i64 E.of_)
  have as5 := Tryz.as_coming_locking (.int .i64 E.of_)
  have as6 := Tryz.as_coming_unlocking (.int .i64 E.of_)
  have as7 := Tryz.as_coming_coming (.int .i64 E.of_)
  obtain ⟨ao, co, al, cl, ac, cc, rfl, bx1, hao, hal, hac⟩ := H1.shape
  obtain ⟨o0, o1, o2, o3⟩ := box_cells bx1
  have bh1 : (w.alloc (.cells #[.int .i64 E.of_] 121)).heap[w.heap.size]? = some (.cells #[.int .i64 E.of_] 121 (0, 0)) := Deep.blk_alloc_new _ _
  have n0 : (w.alloc (.cells #[.int .i64 E.of_] 121)).cell? ⟨w.heap.size, 0, none⟩ = some (.int .i64 E.of_) := cell_of_box bh1 rfl
  have bh2 := bh1
  have zp : p < (w.alloc (.cells #[.int .i64 E.of_] 121)).heap.size := (Array.getElem?_eq_some_iff.1 bx1).1
  have bkw : ∀ b, bookBlocks B K b → b < w.heap.size := fun b hb => h.book.own.blocks_lt hb
  have hV : ac = some ⟨K.C, 0, none⟩ := hac (by omega)
  subst hV
  obtain ⟨W, hW⟩ : ∃ W, W = (w.alloc (.cells #[.int .i64 E.of_] 121)) := ⟨_, rfl⟩
  have HW : Hid (W = (w.alloc (.cells #[.int .i64 E.of_] 121)) ∧ E.of_ = (m : Int)) := ⟨hW, hmo⟩
  clear hW hmo
  go_enter Tryz.func55, Tryz.ntmps55
  go_wp2
  obtain ⟨hW, hmo⟩ := HW.out
  clear HW
  rw [← hW] at H1 B1 bx1 bh1 n0 o3 zp ⊢
  rw [hmo] at n0
  clear bh2 o0 o1 o2
  obtain ⟨_, _, _, _, _, _, ev, -, h2, h3⟩ := H1.book.own.shape
  simp only [Value.agg.injEq, Array.mk.injEq, List.cons.injEq, Value.slice.injEq, and_true, true_and] at ev
  obtain ⟨⟨rfl, rfl⟩, ⟨rfl, rfl⟩, ⟨rfl, rfl⟩⟩ := ev
  have l1 : W.cell? ⟨K.C, m, none⟩ = some (.bool (B.occ.getD m false)) := (h3.row (by omega)).cell hm
  have l2 : W.frozen? ⟨K.C, m, none⟩ = false := (h3.row (by omega)).frozen m
  have hbk : bookBlocks B K K.C := Or.inr (Or.inr ⟨by omega, rfl⟩)
  have ne1 : K.C ≠ p := H1.np _ hbk
  have ne2 : K.C ≠ w.heap.size := by have := bkw _ hbk; omega
  have HP : Hid (HapPre A W lo p _ B K ∧ Below w.heap.size w W ∧ bookBlocks B K K.C) := ⟨H1, B1, hbk⟩
  clear bx1 bh1 bkw hW hok hin h2 h3 hbk H1 B1
  rw [hmo]
  clear hmo
  go_region_held3 (fun w' => w'.cell? ⟨p, 3, none⟩ = some (.slice (some ⟨K.C, 0, none⟩) B.occ.length cc) ∧ w'.cell? ⟨w.heap.size, 0, none⟩ = some (.int .i64 (m : Int))) (go_keep) (fail)
  go_wp2
  go_ret
  rw [doP_occ HG.out.2.1 HG.out.2.2.1, hmt]
  exact (RetX.toY (K := K) (B := B) ⟨none, rfl, Or.inl rfl, rfl, HP.out.1.book.own.drew.setOcc hm true, (Fr.of_below (S := bookBlocks B K) (Below.refl W.heap.size W).drew).setCell (p := ⟨K.C, m, none⟩) HP.out.2.2 _⟩ HP.out.1.book.own HP.out.1.box HP.out.1.np HP.out.1.lo_).from HP.out.2.1 HG.out.2.2.2

set_option maxHeartbeats 4000000 in
theorem happen_9 (A : Nat → Addr) (v : Value) (B : Bk) (K : Blk) (lo p : Nat) (E : Ev) (ad : Option Addr) (_c : Nat) (w : World) (h : HapPre A w lo p v B K) (hok : EvOk B E) (ho : E.op = 9) (_hes : E.secs.length ≤ 1048576) (G : Cells w ad E.secs.length (iV E.secs)) :
    Calls Tryz.prog 55 #[.pointer (some ⟨p, 0, none⟩), .iface 122 (.agg #[.int .i64 E.of_])] w fun e w' => RetY A e w w' lo p (doP B E) := by
  have hin := (EvOk.at6 hok (show In E.op 6 9 by rw [ho]; exact ⟨by omega, by omega⟩)).1
  obtain ⟨m, hmo⟩ : ∃ m : Nat, E.of_ = (m : Int) := ⟨E.of_.toNat, by have := hin.1; omega⟩
  have hm : m < B.occ.length := by have := hin.2; have := h.right.1.2.2.1; omega
  have hmt : E.of_.toNat = m := by omega
  have hm0 : (0 : Int) ≤ (m : Int) := by omega
  have hm1 : (m : Int) < (B.occ.length : Int) := by omega
  have B1 : Below w.heap.size w (w.alloc (.cells #[.int .i64 E.of_] 122)) := below1 _ _
  have H1 := h.below B1
  have HG : Hid (Cells w ad E.secs.length (iV E.secs) ∧ EvOk B E ∧ E.op = 9 ∧ lo ≤ w.heap.size) := ⟨G, hok, ho, h.lo_⟩
  have as0 := Tryz.as_leaving_writing (.int .i64 E.of_)
  have as1 := Tryz.as_leaving_giving (.int .i64 E.of_)
  have as2 := Tryz.as_leaving_repeating (.int .i64 E.of_)
  have as3 := Tryz.as_leaving_givingBack (.int .i64 E.of_)
  have as4 := Tryz.as_leaving_cancelling (.int .i64 E.of_)
  have as5 := Tryz.as_leaving_locking (.int .i64 E.of_)
  have as6 := Tryz.as_leaving_unlocking (.int .i64 E.of_)
  have as7 := Tryz.as_leaving_coming (.int .i64 E.of_)
  have as8 := Tryz.as_leaving_leaving (.int .i64 E.of_)
  obtain ⟨ao, co, al, cl, ac, cc, rfl, bx1, hao, hal, hac⟩ := H1.shape
  obtain ⟨o0, o1, o2, o3⟩ := box_cells bx1
  have bh1 : (w.alloc (.cells #[.int .i64 E.of_] 122)).heap[w.heap.size]? = some (.cells #[.int .i64 E.of_] 122 (0, 0)) := Deep.blk_alloc_new _ _
  have n0 : (w.alloc (.cells #[.int .i64 E.of_] 122)).cell? ⟨w.heap.size, 0, none⟩ = some (.int .i64 E.of_) := cell_of_box bh1 rfl
  have bh2 := bh1
  have zp : p < (w.alloc (.cells #[.int .i64 E.of_] 122)).heap.size := (Array.getElem?_eq_some_iff.1 bx1).1
  have bkw : ∀ b, bookBlocks B K b → b < w.heap.size := fun b hb => h.book.own.blocks_lt hb
  have hV : ac = some ⟨K.C, 0, none⟩ := hac (by omega)
  subst hV
  obtain ⟨W, hW⟩ : ∃ W, W = (w.alloc (.cells #[.int .i64 E.of_] 122)) := ⟨_, rfl⟩
  have HW : Hid (W = (w.alloc (.cells #[.int .i64 E.of_] 122)) ∧ E.of_ = (m : Int)) := ⟨hW, hmo⟩
  clear hW hmo
  go_enter Tryz.func55, Tryz.ntmps55
  go_wp2
  obtain ⟨hW, hmo⟩ := HW.out
  clear HW
  rw [← hW] at H1 B1 bx1 bh1 n0 o3 zp ⊢
  rw [hmo] at n0
  clear bh2 o0 o1 o2
  obtain ⟨_, _, _, _, _, _, ev, -, h2, h3⟩ := H1.book.own.shape
  simp only [Value.agg.injEq, Array.mk.injEq, List.cons.injEq, Value.slice.injEq, and_true, true_and] at ev
  obtain ⟨⟨rfl, rfl⟩, ⟨rfl, rfl⟩, ⟨rfl, rfl⟩⟩ := ev
  have l1 : W.cell? ⟨K.C, m, none⟩ = some (.bool (B.occ.getD m false)) := (h3.row (by omega)).cell hm
  have l2 : W.frozen? ⟨K.C, m, none⟩ = false := (h3.row (by omega)).frozen m
  have hbk : bookBlocks B K K.C := Or.inr (Or.inr ⟨by omega, rfl⟩)
  have ne1 : K.C ≠ p := H1.np _ hbk
  have ne2 : K.C ≠ w.heap.size := by have := bkw _ hbk; omega
  have HP : Hid (HapPre A W lo p _ B K ∧ Below w.heap.size w W ∧ bookBlocks B K K.C) := ⟨H1, B1, hbk⟩
  clear bx1 bh1 bkw hW hok hin h2 h3 hbk H1 B1
  rw [hmo]
  clear hmo
  go_region_held3 (fun w' => w'.cell? ⟨p, 3, none⟩ = some (.slice (some ⟨K.C, 0, none⟩) B.occ.length cc) ∧ w'.cell? ⟨w.heap.size, 0, none⟩ = some (.int .i64 (m : Int))) (go_keep) (fail)
  go_wp2
  go_ret
  rw [doP_free HG.out.2.1 HG.out.2.2.1, hmt]
  exact (RetX.toY (K := K) (B := B) ⟨none, rfl, Or.inl rfl, rfl, HP.out.1.book.own.drew.setOcc hm false, (Fr.of_below (S := bookBlocks B K) (Below.refl W.heap.size W).drew).setCell (p := ⟨K.C, m, none⟩) HP.out.2.2 _⟩ HP.out.1.book.own HP.out.1.box HP.out.1.np HP.out.1.lo_).from HP.out.2.1 HG.out.2.2.2

end Go.Proofs.YteifekoiognhmaaGreatDoor
