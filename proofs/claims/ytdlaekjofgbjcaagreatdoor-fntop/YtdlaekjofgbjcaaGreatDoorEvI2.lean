/-
 The contract of impl.EventOk. Mine, by template (wip/gen.py).
-/
import Derived.Test.YtdlaekjofgbjcaaGreatDoorEvM
import Derived.Test.YtdlaekjofgbjcaaGreatDoorEvS
import Derived.Test.YtdlaekjofgbjcaaGreatDoorEvF
namespace Go.Proofs.YtdlaekjofgbjcaaGreatDoor
open Go.RowKit
def LeftOk (m : Int) (of_ : Int) (holder : ByteArray) (kind : Int) (n : Nat) (text : ByteArray) : Prop := (m = 14 → of_ = 0) ∧ (m = 1 → holder.size = 0) ∧ (m ≠ 14 → kind = 0 ∧ n = 0) ∧ (m ≠ 19 → text.size = 0)
theorem fbit_cases (m : Int) (of_ : Int) (holder : ByteArray) (kind : Int) (n : Nat) (text : ByteArray) (hm : m = 14 ∨ m = 1 ∨ m = 3 ∨ m = 19) :
  (bits .andNot .i64 (fbits of_ holder kind n text : Nat) m = 0 ↔ LeftOk m of_ holder kind n text) := by
 unfold LeftOk; have e1 : (of_ != 0) = false ↔ of_ = 0 := by simp
 have e2 : (!holder.toList.isEmpty) = false ↔ holder.size = 0 := by
  by_cases h : holder.size = 0
  · rw [isE_t h]; simp [h]
  · rw [isE_f h]; simp [h]
 have e3 : (kind != 0) = false ↔ kind = 0 := by simp
 have e4 : decide (0 < n) = false ↔ n = 0 := by rw [decide_eq_false_iff_not]; omega
 have e5 : (!text.toList.isEmpty) = false ↔ text.size = 0 := by
  by_cases h : text.size = 0
  · rw [isE_t h]; simp [h]
  · rw [isE_f h]; simp [h]
 rw [← e1, ← e2, ← e3, ← e4, ← e5]; unfold fbits; generalize (of_ != 0) = b1; generalize (!holder.toList.isEmpty) = b2; generalize (kind != 0) = b3; generalize decide (0 < n) = b4; generalize (!text.toList.isEmpty) = b5
 rcases hm with rfl | rfl | rfl | rfl <;> cases b1 <;> cases b2 <;> cases b3 <;> cases b4 <;> cases b5 <;> decide
set_option maxHeartbeats 4000000 in
theorem implEventOk_any (v ve : Value) (B : Bk) (E : Ev) (w : World) (ho : B.orders.length ≤ 1048576) (hs : ∀ i, i < B.orders.length → (bX B i).secs.length ≤ 1048576 ∧ (bX B i).holder.size ≤ 1048576)
  (he1 : E.holder.size ≤ 4294967296) (he2 : E.text.size ≤ 4294967296) (he3 : E.secs.length ≤ 4294967296) (G : BookAt w v B) (GE : EvAt w ve E) :
  Calls Tryz.prog 59 #[v, ve] w fun e w' => RetB e (EvOk B E) ∧ Below w.heap.size w w' := by
 have G0 := G; obtain ⟨ao, co, al, cl, ac, cc, rfl, -⟩ := G; obtain ⟨ad, ca, rfl, KE⟩ := GE; have HG : Hid (BookAt w (.agg #[.int .i64 B.n, .slice ao B.orders.length co, .slice al B.locked.length cl, .slice ac B.occ.length cc]) B ∧ Cells w ad E.secs.length (iV E.secs)) := ⟨G0, KE⟩; clear G0 KE; obtain ⟨op, of_, holder, kind, secs, text⟩ := E; simp only at he1 he2 he3 HG ⊢; have B1 := below2 w (.cells #[.int .i64 B.n, .slice ao B.orders.length co, .slice al B.locked.length cl, .slice ac B.occ.length cc] 37) (.cells #[.int .i64 op, .int .i64 of_, .string holder, .int .i64 kind, .slice ad secs.length ca, .string text] 32)
 go_enter Tryz.func59, Tryz.ntmps59
 go_wp2_with fail
 refine (happeningOf_any op of_ holder kind ad secs.length ca text _).mono ?_; rintro e w0 ⟨rfl, hb0⟩; have bx0 : w0.heap[w.heap.size]? = some (.cells #[.int .i64 B.n, .slice ao B.orders.length co, .slice al B.locked.length cl, .slice ac B.occ.length cc] 37 (0, 0)) := (hb0.block _ (by simp; omega)).trans ((Deep.blk_alloc_lt _ _ _ (by simp)).trans (Deep.blk_alloc_new _ _)); have by0 : w0.heap[w.heap.size + 1]? = some (.cells #[.int .i64 op, .int .i64 of_, .string holder, .int .i64 kind, .slice ad secs.length ca, .string text] 32 (0, 0)) := (hb0.block _ (by simp)).trans (by have := Deep.blk_alloc_new (w.alloc (.cells #[.int .i64 B.n, .slice ao B.orders.length co, .slice al B.locked.length cl, .slice ac B.occ.length cc] 37)) (.cells #[.int .i64 op, .int .i64 of_, .string holder, .int .i64 kind, .slice ad secs.length ca, .string text] 32); simpa using this); have bw0 : Below w.heap.size w w0 := B1.trans (hb0.mono B1.size); have z0 : w.heap.size + 1 < w0.heap.size := by have := hb0.size; simp at this; omega
 clear hb0 B1; obtain ⟨d0, d1, d2, d3⟩ : w0.cell? ⟨w.heap.size, 0, none⟩ = some (.int .i64 B.n) ∧ w0.cell? ⟨w.heap.size, 1, none⟩ = some (.slice ao B.orders.length co) ∧ w0.cell? ⟨w.heap.size, 2, none⟩ = some (.slice al B.locked.length cl) ∧ w0.cell? ⟨w.heap.size, 3, none⟩ = some (.slice ac B.occ.length cc) := by simp [World.cell?, bx0]
 go_wp2_with fail
 refine (implBookOk_any _ B _ ho hs (HG.out.1.below bw0)).mono ?_; rintro e w1 ⟨⟨c, rfl, hc⟩, hb1⟩; have bx := (hb1.block _ (by omega : w.heap.size < w0.heap.size)).trans bx0; have by1 := (hb1.block _ z0).trans by0; have bw : Below w.heap.size w w1 := below_trans bw0 bw0.size hb1; have zs := hb1.size; have zw : w.heap.size < w1.heap.size := by omega
 clear hb1 bx0 by0 bw0 z0 d0 d1 d2 d3 zs
 by_cases c0 : c = 0
 case neg =>
  have HR : Hid (¬ Right B) := fun r => c0 (hc.right.2 r); have t : (c == 0) = false := by simpa using c0
  clear hc bx by1 c0 hs; go_wp2; go_ret; exact ⟨RetB.f (fun q => HR.out q.1), bw⟩
 have HR : Hid (Right B) := hc.right.1 c0; have HC : Hid (Cells w1 ad secs.length (iV secs)) := HG.out.2.below bw; subst c0; clear hc hs HG; obtain ⟨d0, d1, d2, d3⟩ : w1.cell? ⟨w.heap.size, 0, none⟩ = some (.int .i64 B.n) ∧ w1.cell? ⟨w.heap.size, 1, none⟩ = some (.slice ao B.orders.length co) ∧ w1.cell? ⟨w.heap.size, 2, none⟩ = some (.slice al B.locked.length cl) ∧ w1.cell? ⟨w.heap.size, 3, none⟩ = some (.slice ac B.occ.length cc) := by simp [World.cell?, bx]
 obtain ⟨e0, e1, e2, e3, e4, e5⟩ := ev_cells by1; have HB : Hid (w1.heap[w.heap.size]? = some (.cells #[.int .i64 B.n, .slice ao B.orders.length co, .slice al B.locked.length cl, .slice ac B.occ.length cc] 37 (0, 0))) := bx; clear bx by1
 by_cases o1 : op = 1
 ·
  subst o1; rw [show hapV 1 of_ holder kind ad secs.length ca text = .iface 134 (.agg #[.string holder, .int .i64 kind, .slice ad secs.length ca, .int .i64 1]) from rfl]; have m1 := Tryz.m_writing_namedFields (.string holder) (.int .i64 kind) (.slice ad secs.length ca) (.int .i64 1); have n1 := Tryz.n_writing_namedFields (.string holder) (.int .i64 kind) (.slice ad secs.length ca) (.int .i64 1); have m2 := Tryz.m_writing_fits (.string holder) (.int .i64 kind) (.slice ad secs.length ca) (.int .i64 1); have n2 := Tryz.n_writing_fits (.string holder) (.int .i64 kind) (.slice ad secs.length ca) (.int .i64 1)
  go_wp2_with fail
  refine (filledFields_any 1 of_ holder kind ad secs.length ca text _).mono ?_; rintro e w2 ⟨rfl, hb2⟩; have bw2 := below_trans bw bw.size hb2; have HB2 : Hid (w2.heap[w.heap.size]? = some (.cells #[.int .i64 B.n, .slice ao B.orders.length co, .slice al B.locked.length cl, .slice ac B.occ.length cc] 37 (0, 0)) ∧ Cells w2 ad secs.length (iV secs)) := ⟨(hb2.block _ zw).trans HB.out, HC.out.below hb2⟩; have zw2 : w.heap.size < w2.heap.size := Nat.lt_of_lt_of_le zw hb2.size; clear hb2 bw HC HB zw d0 d1 d2 d3 e0 e1 e2 e3 e4 e5
  go_wp2_with fail
  refine (named_writing _ (.string holder) (.int .i64 kind) (.slice ad secs.length ca) (.int .i64 1) rfl _).mono ?_; rintro e w3 ⟨rfl, hb3⟩; have bw3 := below_trans bw2 bw2.size hb3; have HC3 : Hid (Cells w3 ad secs.length (iV secs)) := HB2.out.2.below hb3; have bx3 := (hb3.block _ zw2).trans HB2.out.1; obtain ⟨d0, d1, d2, d3⟩ : w3.cell? ⟨w.heap.size, 0, none⟩ = some (.int .i64 B.n) ∧ w3.cell? ⟨w.heap.size, 1, none⟩ = some (.slice ao B.orders.length co) ∧ w3.cell? ⟨w.heap.size, 2, none⟩ = some (.slice al B.locked.length cl) ∧ w3.cell? ⟨w.heap.size, 3, none⟩ = some (.slice ac B.occ.length cc) := by simp [World.cell?, bx3]
  clear hb3 bw2 HB2 bx3 zw2; have hbits := fbit_cases 14 of_ holder kind secs.length text (by decide)
  by_cases hz : bits .andNot .i64 (fbits of_ holder kind secs.length text : Nat) 14 = 0
  ·
   have HL : Hid (LeftOk 14 of_ holder kind secs.length text) := hbits.1 hz; have tz : (bits .andNot .i64 (fbits of_ holder kind secs.length text : Nat) 14 == 0) = true := by simpa using hz
   clear hbits hz
   go_wp2_with fail
   refine (fits_writing ⟨holder, kind, secs, 1⟩ ad ca B.n _ _ _ _ he1 he3 HC3.out).mono ?_; rintro e w4 ⟨hr, hb4⟩; have bw4 := below_trans bw3 bw3.size hb4; clear hb4 bw3 HC3 d0 d1 d2 d3; rcases hr.cases with ⟨rfl, hp⟩ | ⟨rfl, hp⟩
   ·
    have HP : Hid (OrdOk ⟨holder, kind, secs, 1⟩ B.n) := hp; clear hp hr; go_wp2; go_ret; have l := HL.out; have p := HP.out; exact ⟨RetB.t ⟨HR.out, Or.inl ⟨rfl, l.1 rfl, p.1, p.2.1, p.2.2.1, l.2.2.2 (by decide)⟩⟩, bw4⟩
   ·
    have HP : Hid (¬ (OrdOk ⟨holder, kind, secs, 1⟩ B.n)) := hp; clear hp hr; go_wp2; go_ret; exact ⟨RetB.f (fun q => HP.out (have u := (EvOk.at1 q rfl); ⟨u.2.1, u.2.2.1, u.2.2.2.1, (show In (1 : Int) 1 5 from ⟨by omega, by omega⟩)⟩)), bw4⟩
  ·
   have HL : Hid (¬ LeftOk 14 of_ holder kind secs.length text) := fun h => hz (hbits.2 h); have tz : (bits .andNot .i64 (fbits of_ holder kind secs.length text : Nat) 14 == 0) = false := by simpa using hz
   clear hbits hz; go_wp2; go_ret; exact ⟨RetB.f (fun q => HL.out (have u := (EvOk.at1 q rfl); ⟨fun _ => u.1, fun h => absurd h (by decide), fun h => absurd rfl h, fun _ => u.2.2.2.2⟩)), bw3⟩
 by_cases o2 : op = 2
 ·
  subst o2; clear o1; rw [show hapV 2 of_ holder kind ad secs.length ca text = .iface 139 (.agg #[.int .i64 of_]) from rfl]; have m1 := Tryz.m_giving_namedFields (.int .i64 of_); have n1 := Tryz.n_giving_namedFields (.int .i64 of_); have m2 := Tryz.m_giving_fits (.int .i64 of_); have n2 := Tryz.n_giving_fits (.int .i64 of_)
  go_wp2_with fail
  refine (filledFields_any 2 of_ holder kind ad secs.length ca text _).mono ?_; rintro e w2 ⟨rfl, hb2⟩; have bw2 := below_trans bw bw.size hb2; have HB2 : Hid (w2.heap[w.heap.size]? = some (.cells #[.int .i64 B.n, .slice ao B.orders.length co, .slice al B.locked.length cl, .slice ac B.occ.length cc] 37 (0, 0)) ∧ Cells w2 ad secs.length (iV secs)) := ⟨(hb2.block _ zw).trans HB.out, HC.out.below hb2⟩; have zw2 : w.heap.size < w2.heap.size := Nat.lt_of_lt_of_le zw hb2.size; clear hb2 bw HC HB zw d0 d1 d2 d3 e0 e1 e2 e3 e4 e5
  go_wp2_with fail
  refine (named_ofOrder _ _).mono ?_; rintro e w3 ⟨rfl, hb3⟩; have bw3 := below_trans bw2 bw2.size hb3; have HC3 : Hid (Cells w3 ad secs.length (iV secs)) := HB2.out.2.below hb3; have bx3 := (hb3.block _ zw2).trans HB2.out.1; obtain ⟨d0, d1, d2, d3⟩ : w3.cell? ⟨w.heap.size, 0, none⟩ = some (.int .i64 B.n) ∧ w3.cell? ⟨w.heap.size, 1, none⟩ = some (.slice ao B.orders.length co) ∧ w3.cell? ⟨w.heap.size, 2, none⟩ = some (.slice al B.locked.length cl) ∧ w3.cell? ⟨w.heap.size, 3, none⟩ = some (.slice ac B.occ.length cc) := by simp [World.cell?, bx3]
  clear hb3 bw2 HB2 bx3 zw2; have hbits := fbit_cases 1 of_ holder kind secs.length text (by decide)
  by_cases hz : bits .andNot .i64 (fbits of_ holder kind secs.length text : Nat) 1 = 0
  ·
   have HL : Hid (LeftOk 1 of_ holder kind secs.length text) := hbits.1 hz; have tz : (bits .andNot .i64 (fbits of_ holder kind secs.length text : Nat) 1 == 0) = true := by simpa using hz
   clear hbits hz
   go_wp2_with fail
   refine (fits_ofOrder of_ B.orders.length ao co _ _ _ _).mono ?_; rintro e w4 ⟨hr, hb4⟩; have bw4 := below_trans bw3 bw3.size hb4; clear hb4 bw3 HC3 d0 d1 d2 d3; rcases hr.cases with ⟨rfl, hp⟩ | ⟨rfl, hp⟩
   ·
    have HP : Hid (In of_ 0 ((B.orders.length : Int) - 1)) := hp; clear hp hr; go_wp2; go_ret; have l := HL.out; have p := HP.out; exact ⟨RetB.t ⟨HR.out, Or.inr (Or.inl ⟨Or.inl rfl, p, l.2.1 rfl, (l.2.2.1 (by decide)).1, (l.2.2.1 (by decide)).2, l.2.2.2 (by decide)⟩)⟩, bw4⟩
   ·
    have HP : Hid (¬ (In of_ 0 ((B.orders.length : Int) - 1))) := hp; clear hp hr; go_wp2; go_ret; exact ⟨RetB.f (fun q => HP.out (have u := (EvOk.at25 q (Or.inl rfl)); u.1)), bw4⟩
  ·
   have HL : Hid (¬ LeftOk 1 of_ holder kind secs.length text) := fun h => hz (hbits.2 h); have tz : (bits .andNot .i64 (fbits of_ holder kind secs.length text : Nat) 1 == 0) = false := by simpa using hz
   clear hbits hz; go_wp2; go_ret; exact ⟨RetB.f (fun q => HL.out (have u := (EvOk.at25 q (Or.inl rfl)); ⟨fun h => absurd h (by decide), fun _ => u.2.1, fun _ => ⟨u.2.2.1, u.2.2.2.1⟩, fun _ => u.2.2.2.2⟩)), bw3⟩
 by_cases o3 : op = 3
 ·
  subst o3; clear o1 o2; rw [show hapV 3 of_ holder kind ad secs.length ca text = .iface 142 (.agg #[.int .i64 of_, .string holder, .string text]) from rfl]; have m1 := Tryz.m_repeating_namedFields (.int .i64 of_) (.string holder) (.string text); have n1 := Tryz.n_repeating_namedFields (.int .i64 of_) (.string holder) (.string text); have m2 := Tryz.m_repeating_fits (.int .i64 of_) (.string holder) (.string text); have n2 := Tryz.n_repeating_fits (.int .i64 of_) (.string holder) (.string text)
  go_wp2_with fail
  refine (filledFields_any 3 of_ holder kind ad secs.length ca text _).mono ?_; rintro e w2 ⟨rfl, hb2⟩; have bw2 := below_trans bw bw.size hb2; have HB2 : Hid (w2.heap[w.heap.size]? = some (.cells #[.int .i64 B.n, .slice ao B.orders.length co, .slice al B.locked.length cl, .slice ac B.occ.length cc] 37 (0, 0)) ∧ Cells w2 ad secs.length (iV secs)) := ⟨(hb2.block _ zw).trans HB.out, HC.out.below hb2⟩; have zw2 : w.heap.size < w2.heap.size := Nat.lt_of_lt_of_le zw hb2.size; clear hb2 bw HC HB zw d0 d1 d2 d3 e0 e1 e2 e3 e4 e5
  go_wp2_with fail
  refine (named_repeating _ _ _ _).mono ?_; rintro e w3 ⟨rfl, hb3⟩; have bw3 := below_trans bw2 bw2.size hb3; have HC3 : Hid (Cells w3 ad secs.length (iV secs)) := HB2.out.2.below hb3; have bx3 := (hb3.block _ zw2).trans HB2.out.1; obtain ⟨d0, d1, d2, d3⟩ : w3.cell? ⟨w.heap.size, 0, none⟩ = some (.int .i64 B.n) ∧ w3.cell? ⟨w.heap.size, 1, none⟩ = some (.slice ao B.orders.length co) ∧ w3.cell? ⟨w.heap.size, 2, none⟩ = some (.slice al B.locked.length cl) ∧ w3.cell? ⟨w.heap.size, 3, none⟩ = some (.slice ac B.occ.length cc) := by simp [World.cell?, bx3]
  clear hb3 bw2 HB2 bx3 zw2; have hbits := fbit_cases 19 of_ holder kind secs.length text (by decide)
  by_cases hz : bits .andNot .i64 (fbits of_ holder kind secs.length text : Nat) 19 = 0
  ·
   have HL : Hid (LeftOk 19 of_ holder kind secs.length text) := hbits.1 hz; have tz : (bits .andNot .i64 (fbits of_ holder kind secs.length text : Nat) 19 == 0) = true := by simpa using hz
   clear hbits hz
   go_wp2_with fail
   refine (fits_repeating of_ holder text B.orders.length ao co _ _ _ _ he1).mono ?_; rintro e w4 ⟨hr, hb4⟩; have bw4 := below_trans bw3 bw3.size hb4; clear hb4 bw3 HC3 d0 d1 d2 d3; rcases hr.cases with ⟨rfl, hp⟩ | ⟨rfl, hp⟩
   ·
    have HP : Hid (In of_ 0 ((B.orders.length : Int) - 1) ∧ NameOk holder ∧ text.size ≤ 200) := hp; clear hp hr; go_wp2; go_ret; have l := HL.out; have p := HP.out; exact ⟨RetB.t ⟨HR.out, Or.inr (Or.inr (Or.inl ⟨rfl, p.1, p.2.1, (l.2.2.1 (by decide)).1, (l.2.2.1 (by decide)).2, p.2.2⟩))⟩, bw4⟩
   ·
    have HP : Hid (¬ (In of_ 0 ((B.orders.length : Int) - 1) ∧ NameOk holder ∧ text.size ≤ 200)) := hp; clear hp hr; go_wp2; go_ret; exact ⟨RetB.f (fun q => HP.out (have u := (EvOk.at3 q rfl); ⟨u.1, u.2.1, u.2.2.2.2⟩)), bw4⟩
  ·
   have HL : Hid (¬ LeftOk 19 of_ holder kind secs.length text) := fun h => hz (hbits.2 h); have tz : (bits .andNot .i64 (fbits of_ holder kind secs.length text : Nat) 19 == 0) = false := by simpa using hz
   clear hbits hz; go_wp2; go_ret; exact ⟨RetB.f (fun q => HL.out (have u := (EvOk.at3 q rfl); ⟨fun h => absurd h (by decide), fun h => absurd h (by decide), fun _ => ⟨u.2.2.1, u.2.2.2.1⟩, fun h => absurd rfl h⟩)), bw3⟩
 by_cases o4 : op = 4
 ·
  subst o4; clear o1 o2 o3; rw [show hapV 4 of_ holder kind ad secs.length ca text = .iface 145 (.agg #[.int .i64 of_, .string holder]) from rfl]; have m1 := Tryz.m_givingBack_namedFields (.int .i64 of_) (.string holder); have n1 := Tryz.n_givingBack_namedFields (.int .i64 of_) (.string holder); have m2 := Tryz.m_givingBack_fits (.int .i64 of_) (.string holder); have n2 := Tryz.n_givingBack_fits (.int .i64 of_) (.string holder)
  go_wp2_with fail
  refine (filledFields_any 4 of_ holder kind ad secs.length ca text _).mono ?_; rintro e w2 ⟨rfl, hb2⟩; have bw2 := below_trans bw bw.size hb2; have HB2 : Hid (w2.heap[w.heap.size]? = some (.cells #[.int .i64 B.n, .slice ao B.orders.length co, .slice al B.locked.length cl, .slice ac B.occ.length cc] 37 (0, 0)) ∧ Cells w2 ad secs.length (iV secs)) := ⟨(hb2.block _ zw).trans HB.out, HC.out.below hb2⟩; have zw2 : w.heap.size < w2.heap.size := Nat.lt_of_lt_of_le zw hb2.size; clear hb2 bw HC HB zw d0 d1 d2 d3 e0 e1 e2 e3 e4 e5
  go_wp2_with fail
  refine (named_givingBack _ _ _).mono ?_; rintro e w3 ⟨rfl, hb3⟩; have bw3 := below_trans bw2 bw2.size hb3; have HC3 : Hid (Cells w3 ad secs.length (iV secs)) := HB2.out.2.below hb3; have bx3 := (hb3.block _ zw2).trans HB2.out.1; obtain ⟨d0, d1, d2, d3⟩ : w3.cell? ⟨w.heap.size, 0, none⟩ = some (.int .i64 B.n) ∧ w3.cell? ⟨w.heap.size, 1, none⟩ = some (.slice ao B.orders.length co) ∧ w3.cell? ⟨w.heap.size, 2, none⟩ = some (.slice al B.locked.length cl) ∧ w3.cell? ⟨w.heap.size, 3, none⟩ = some (.slice ac B.occ.length cc) := by simp [World.cell?, bx3]
  clear hb3 bw2 HB2 bx3 zw2; have hbits := fbit_cases 3 of_ holder kind secs.length text (by decide)
  by_cases hz : bits .andNot .i64 (fbits of_ holder kind secs.length text : Nat) 3 = 0
  ·
   have HL : Hid (LeftOk 3 of_ holder kind secs.length text) := hbits.1 hz; have tz : (bits .andNot .i64 (fbits of_ holder kind secs.length text : Nat) 3 == 0) = true := by simpa using hz
   clear hbits hz
   go_wp2_with fail
   refine (fits_givingBack of_ holder B.orders.length ao co _ _ _ _ he1).mono ?_; rintro e w4 ⟨hr, hb4⟩; have bw4 := below_trans bw3 bw3.size hb4; clear hb4 bw3 HC3 d0 d1 d2 d3; rcases hr.cases with ⟨rfl, hp⟩ | ⟨rfl, hp⟩
   ·
    have HP : Hid (In of_ 0 ((B.orders.length : Int) - 1) ∧ NameOk holder) := hp; clear hp hr; go_wp2; go_ret; have l := HL.out; have p := HP.out; exact ⟨RetB.t ⟨HR.out, Or.inr (Or.inr (Or.inr (Or.inl ⟨rfl, p.1, p.2, (l.2.2.1 (by decide)).1, (l.2.2.1 (by decide)).2, l.2.2.2 (by decide)⟩)))⟩, bw4⟩
   ·
    have HP : Hid (¬ (In of_ 0 ((B.orders.length : Int) - 1) ∧ NameOk holder)) := hp; clear hp hr; go_wp2; go_ret; exact ⟨RetB.f (fun q => HP.out (have u := (EvOk.at4 q rfl); ⟨u.1, u.2.1⟩)), bw4⟩
  ·
   have HL : Hid (¬ LeftOk 3 of_ holder kind secs.length text) := fun h => hz (hbits.2 h); have tz : (bits .andNot .i64 (fbits of_ holder kind secs.length text : Nat) 3 == 0) = false := by simpa using hz
   clear hbits hz; go_wp2; go_ret; exact ⟨RetB.f (fun q => HL.out (have u := (EvOk.at4 q rfl); ⟨fun h => absurd h (by decide), fun h => absurd h (by decide), fun _ => ⟨u.2.2.1, u.2.2.2.1⟩, fun _ => u.2.2.2.2⟩)), bw3⟩
 by_cases o5 : op = 5
 ·
  subst o5; clear o1 o2 o3 o4; rw [show hapV 5 of_ holder kind ad secs.length ca text = .iface 147 (.agg #[.int .i64 of_]) from rfl]; have m1 := Tryz.m_cancelling_namedFields (.int .i64 of_); have n1 := Tryz.n_cancelling_namedFields (.int .i64 of_); have m2 := Tryz.m_cancelling_fits (.int .i64 of_); have n2 := Tryz.n_cancelling_fits (.int .i64 of_)
  go_wp2_with fail
  refine (filledFields_any 5 of_ holder kind ad secs.length ca text _).mono ?_; rintro e w2 ⟨rfl, hb2⟩; have bw2 := below_trans bw bw.size hb2; have HB2 : Hid (w2.heap[w.heap.size]? = some (.cells #[.int .i64 B.n, .slice ao B.orders.length co, .slice al B.locked.length cl, .slice ac B.occ.length cc] 37 (0, 0)) ∧ Cells w2 ad secs.length (iV secs)) := ⟨(hb2.block _ zw).trans HB.out, HC.out.below hb2⟩; have zw2 : w.heap.size < w2.heap.size := Nat.lt_of_lt_of_le zw hb2.size; clear hb2 bw HC HB zw d0 d1 d2 d3 e0 e1 e2 e3 e4 e5
  go_wp2_with fail
  refine (named_ofOrder _ _).mono ?_; rintro e w3 ⟨rfl, hb3⟩; have bw3 := below_trans bw2 bw2.size hb3; have HC3 : Hid (Cells w3 ad secs.length (iV secs)) := HB2.out.2.below hb3; have bx3 := (hb3.block _ zw2).trans HB2.out.1; obtain ⟨d0, d1, d2, d3⟩ : w3.cell? ⟨w.heap.size, 0, none⟩ = some (.int .i64 B.n) ∧ w3.cell? ⟨w.heap.size, 1, none⟩ = some (.slice ao B.orders.length co) ∧ w3.cell? ⟨w.heap.size, 2, none⟩ = some (.slice al B.locked.length cl) ∧ w3.cell? ⟨w.heap.size, 3, none⟩ = some (.slice ac B.occ.length cc) := by simp [World.cell?, bx3]
  clear hb3 bw2 HB2 bx3 zw2; have hbits := fbit_cases 1 of_ holder kind secs.length text (by decide)
  by_cases hz : bits .andNot .i64 (fbits of_ holder kind secs.length text : Nat) 1 = 0
  ·
   have HL : Hid (LeftOk 1 of_ holder kind secs.length text) := hbits.1 hz; have tz : (bits .andNot .i64 (fbits of_ holder kind secs.length text : Nat) 1 == 0) = true := by simpa using hz
   clear hbits hz
   go_wp2_with fail
   refine (fits_ofOrder of_ B.orders.length ao co _ _ _ _).mono ?_; rintro e w4 ⟨hr, hb4⟩; have bw4 := below_trans bw3 bw3.size hb4; clear hb4 bw3 HC3 d0 d1 d2 d3; rcases hr.cases with ⟨rfl, hp⟩ | ⟨rfl, hp⟩
   ·
    have HP : Hid (In of_ 0 ((B.orders.length : Int) - 1)) := hp; clear hp hr; go_wp2; go_ret; have l := HL.out; have p := HP.out; exact ⟨RetB.t ⟨HR.out, Or.inr (Or.inl ⟨Or.inr rfl, p, l.2.1 rfl, (l.2.2.1 (by decide)).1, (l.2.2.1 (by decide)).2, l.2.2.2 (by decide)⟩)⟩, bw4⟩
   ·
    have HP : Hid (¬ (In of_ 0 ((B.orders.length : Int) - 1))) := hp; clear hp hr; go_wp2; go_ret; exact ⟨RetB.f (fun q => HP.out (have u := (EvOk.at25 q (Or.inr rfl)); u.1)), bw4⟩
  ·
   have HL : Hid (¬ LeftOk 1 of_ holder kind secs.length text) := fun h => hz (hbits.2 h); have tz : (bits .andNot .i64 (fbits of_ holder kind secs.length text : Nat) 1 == 0) = false := by simpa using hz
   clear hbits hz; go_wp2; go_ret; exact ⟨RetB.f (fun q => HL.out (have u := (EvOk.at25 q (Or.inr rfl)); ⟨fun h => absurd h (by decide), fun _ => u.2.1, fun _ => ⟨u.2.2.1, u.2.2.2.1⟩, fun _ => u.2.2.2.2⟩)), bw3⟩
 by_cases o6 : op = 6
 ·
  subst o6; clear o1 o2 o3 o4 o5; rw [show hapV 6 of_ holder kind ad secs.length ca text = .iface 152 (.agg #[.int .i64 of_]) from rfl]; have m1 := Tryz.m_locking_namedFields (.int .i64 of_); have n1 := Tryz.n_locking_namedFields (.int .i64 of_); have m2 := Tryz.m_locking_fits (.int .i64 of_); have n2 := Tryz.n_locking_fits (.int .i64 of_)
  go_wp2_with fail
  refine (filledFields_any 6 of_ holder kind ad secs.length ca text _).mono ?_; rintro e w2 ⟨rfl, hb2⟩; have bw2 := below_trans bw bw.size hb2; have HB2 : Hid (w2.heap[w.heap.size]? = some (.cells #[.int .i64 B.n, .slice ao B.orders.length co, .slice al B.locked.length cl, .slice ac B.occ.length cc] 37 (0, 0)) ∧ Cells w2 ad secs.length (iV secs)) := ⟨(hb2.block _ zw).trans HB.out, HC.out.below hb2⟩; have zw2 : w.heap.size < w2.heap.size := Nat.lt_of_lt_of_le zw hb2.size; clear hb2 bw HC HB zw d0 d1 d2 d3 e0 e1 e2 e3 e4 e5
  go_wp2_with fail
  refine (named_ofSection _ _).mono ?_; rintro e w3 ⟨rfl, hb3⟩; have bw3 := below_trans bw2 bw2.size hb3; have HC3 : Hid (Cells w3 ad secs.length (iV secs)) := HB2.out.2.below hb3; have bx3 := (hb3.block _ zw2).trans HB2.out.1; obtain ⟨d0, d1, d2, d3⟩ : w3.cell? ⟨w.heap.size, 0, none⟩ = some (.int .i64 B.n) ∧ w3.cell? ⟨w.heap.size, 1, none⟩ = some (.slice ao B.orders.length co) ∧ w3.cell? ⟨w.heap.size, 2, none⟩ = some (.slice al B.locked.length cl) ∧ w3.cell? ⟨w.heap.size, 3, none⟩ = some (.slice ac B.occ.length cc) := by simp [World.cell?, bx3]
  clear hb3 bw2 HB2 bx3 zw2; have hbits := fbit_cases 1 of_ holder kind secs.length text (by decide)
  by_cases hz : bits .andNot .i64 (fbits of_ holder kind secs.length text : Nat) 1 = 0
  ·
   have HL : Hid (LeftOk 1 of_ holder kind secs.length text) := hbits.1 hz; have tz : (bits .andNot .i64 (fbits of_ holder kind secs.length text : Nat) 1 == 0) = true := by simpa using hz
   clear hbits hz
   go_wp2_with fail
   refine (fits_ofSection of_ B.n _ _ _ _).mono ?_; rintro e w4 ⟨hr, hb4⟩; have bw4 := below_trans bw3 bw3.size hb4; clear hb4 bw3 HC3 d0 d1 d2 d3; rcases hr.cases with ⟨rfl, hp⟩ | ⟨rfl, hp⟩
   ·
    have HP : Hid (In of_ 0 (B.n - 1)) := hp; clear hp hr; go_wp2; go_ret; have l := HL.out; have p := HP.out; exact ⟨RetB.t ⟨HR.out, Or.inr (Or.inr (Or.inr (Or.inr ⟨(show In 6 6 9 from ⟨by omega, by omega⟩), p, l.2.1 rfl, (l.2.2.1 (by decide)).1, (l.2.2.1 (by decide)).2, l.2.2.2 (by decide)⟩)))⟩, bw4⟩
   ·
    have HP : Hid (¬ (In of_ 0 (B.n - 1))) := hp; clear hp hr; go_wp2; go_ret; exact ⟨RetB.f (fun q => HP.out (have u := (EvOk.at6 q (show In 6 6 9 from ⟨by omega, by omega⟩)); u.1)), bw4⟩
  ·
   have HL : Hid (¬ LeftOk 1 of_ holder kind secs.length text) := fun h => hz (hbits.2 h); have tz : (bits .andNot .i64 (fbits of_ holder kind secs.length text : Nat) 1 == 0) = false := by simpa using hz
   clear hbits hz; go_wp2; go_ret; exact ⟨RetB.f (fun q => HL.out (have u := (EvOk.at6 q (show In 6 6 9 from ⟨by omega, by omega⟩)); ⟨fun h => absurd h (by decide), fun _ => u.2.1, fun _ => ⟨u.2.2.1, u.2.2.2.1⟩, fun _ => u.2.2.2.2⟩)), bw3⟩
 by_cases o7 : op = 7
 ·
  subst o7; clear o1 o2 o3 o4 o5 o6; rw [show hapV 7 of_ holder kind ad secs.length ca text = .iface 153 (.agg #[.int .i64 of_]) from rfl]; have m1 := Tryz.m_unlocking_namedFields (.int .i64 of_); have n1 := Tryz.n_unlocking_namedFields (.int .i64 of_); have m2 := Tryz.m_unlocking_fits (.int .i64 of_); have n2 := Tryz.n_unlocking_fits (.int .i64 of_)
  go_wp2_with fail
  refine (filledFields_any 7 of_ holder kind ad secs.length ca text _).mono ?_; rintro e w2 ⟨rfl, hb2⟩; have bw2 := below_trans bw bw.size hb2; have HB2 : Hid (w2.heap[w.heap.size]? = some (.cells #[.int .i64 B.n, .slice ao B.orders.length co, .slice al B.locked.length cl, .slice ac B.occ.length cc] 37 (0, 0)) ∧ Cells w2 ad secs.length (iV secs)) := ⟨(hb2.block _ zw).trans HB.out, HC.out.below hb2⟩; have zw2 : w.heap.size < w2.heap.size := Nat.lt_of_lt_of_le zw hb2.size; clear hb2 bw HC HB zw d0 d1 d2 d3 e0 e1 e2 e3 e4 e5
  go_wp2_with fail
  refine (named_ofSection _ _).mono ?_; rintro e w3 ⟨rfl, hb3⟩; have bw3 := below_trans bw2 bw2.size hb3; have HC3 : Hid (Cells w3 ad secs.length (iV secs)) := HB2.out.2.below hb3; have bx3 := (hb3.block _ zw2).trans HB2.out.1; obtain ⟨d0, d1, d2, d3⟩ : w3.cell? ⟨w.heap.size, 0, none⟩ = some (.int .i64 B.n) ∧ w3.cell? ⟨w.heap.size, 1, none⟩ = some (.slice ao B.orders.length co) ∧ w3.cell? ⟨w.heap.size, 2, none⟩ = some (.slice al B.locked.length cl) ∧ w3.cell? ⟨w.heap.size, 3, none⟩ = some (.slice ac B.occ.length cc) := by simp [World.cell?, bx3]
  clear hb3 bw2 HB2 bx3 zw2; have hbits := fbit_cases 1 of_ holder kind secs.length text (by decide)
  by_cases hz : bits .andNot .i64 (fbits of_ holder kind secs.length text : Nat) 1 = 0
  ·
   have HL : Hid (LeftOk 1 of_ holder kind secs.length text) := hbits.1 hz; have tz : (bits .andNot .i64 (fbits of_ holder kind secs.length text : Nat) 1 == 0) = true := by simpa using hz
   clear hbits hz
   go_wp2_with fail
   refine (fits_ofSection of_ B.n _ _ _ _).mono ?_; rintro e w4 ⟨hr, hb4⟩; have bw4 := below_trans bw3 bw3.size hb4; clear hb4 bw3 HC3 d0 d1 d2 d3; rcases hr.cases with ⟨rfl, hp⟩ | ⟨rfl, hp⟩
   ·
    have HP : Hid (In of_ 0 (B.n - 1)) := hp; clear hp hr; go_wp2; go_ret; have l := HL.out; have p := HP.out; exact ⟨RetB.t ⟨HR.out, Or.inr (Or.inr (Or.inr (Or.inr ⟨(show In 7 6 9 from ⟨by omega, by omega⟩), p, l.2.1 rfl, (l.2.2.1 (by decide)).1, (l.2.2.1 (by decide)).2, l.2.2.2 (by decide)⟩)))⟩, bw4⟩
   ·
    have HP : Hid (¬ (In of_ 0 (B.n - 1))) := hp; clear hp hr; go_wp2; go_ret; exact ⟨RetB.f (fun q => HP.out (have u := (EvOk.at6 q (show In 7 6 9 from ⟨by omega, by omega⟩)); u.1)), bw4⟩
  ·
   have HL : Hid (¬ LeftOk 1 of_ holder kind secs.length text) := fun h => hz (hbits.2 h); have tz : (bits .andNot .i64 (fbits of_ holder kind secs.length text : Nat) 1 == 0) = false := by simpa using hz
   clear hbits hz; go_wp2; go_ret; exact ⟨RetB.f (fun q => HL.out (have u := (EvOk.at6 q (show In 7 6 9 from ⟨by omega, by omega⟩)); ⟨fun h => absurd h (by decide), fun _ => u.2.1, fun _ => ⟨u.2.2.1, u.2.2.2.1⟩, fun _ => u.2.2.2.2⟩)), bw3⟩
 by_cases o8 : op = 8
 ·
  subst o8; clear o1 o2 o3 o4 o5 o6 o7; rw [show hapV 8 of_ holder kind ad secs.length ca text = .iface 154 (.agg #[.int .i64 of_]) from rfl]; have m1 := Tryz.m_coming_namedFields (.int .i64 of_); have n1 := Tryz.n_coming_namedFields (.int .i64 of_); have m2 := Tryz.m_coming_fits (.int .i64 of_); have n2 := Tryz.n_coming_fits (.int .i64 of_)
  go_wp2_with fail
  refine (filledFields_any 8 of_ holder kind ad secs.length ca text _).mono ?_; rintro e w2 ⟨rfl, hb2⟩; have bw2 := below_trans bw bw.size hb2; have HB2 : Hid (w2.heap[w.heap.size]? = some (.cells #[.int .i64 B.n, .slice ao B.orders.length co, .slice al B.locked.length cl, .slice ac B.occ.length cc] 37 (0, 0)) ∧ Cells w2 ad secs.length (iV secs)) := ⟨(hb2.block _ zw).trans HB.out, HC.out.below hb2⟩; have zw2 : w.heap.size < w2.heap.size := Nat.lt_of_lt_of_le zw hb2.size; clear hb2 bw HC HB zw d0 d1 d2 d3 e0 e1 e2 e3 e4 e5
  go_wp2_with fail
  refine (named_ofSection _ _).mono ?_; rintro e w3 ⟨rfl, hb3⟩; have bw3 := below_trans bw2 bw2.size hb3; have HC3 : Hid (Cells w3 ad secs.length (iV secs)) := HB2.out.2.below hb3; have bx3 := (hb3.block _ zw2).trans HB2.out.1; obtain ⟨d0, d1, d2, d3⟩ : w3.cell? ⟨w.heap.size, 0, none⟩ = some (.int .i64 B.n) ∧ w3.cell? ⟨w.heap.size, 1, none⟩ = some (.slice ao B.orders.length co) ∧ w3.cell? ⟨w.heap.size, 2, none⟩ = some (.slice al B.locked.length cl) ∧ w3.cell? ⟨w.heap.size, 3, none⟩ = some (.slice ac B.occ.length cc) := by simp [World.cell?, bx3]
  clear hb3 bw2 HB2 bx3 zw2; have hbits := fbit_cases 1 of_ holder kind secs.length text (by decide)
  by_cases hz : bits .andNot .i64 (fbits of_ holder kind secs.length text : Nat) 1 = 0
  ·
   have HL : Hid (LeftOk 1 of_ holder kind secs.length text) := hbits.1 hz; have tz : (bits .andNot .i64 (fbits of_ holder kind secs.length text : Nat) 1 == 0) = true := by simpa using hz
   clear hbits hz
   go_wp2_with fail
   refine (fits_ofSection of_ B.n _ _ _ _).mono ?_; rintro e w4 ⟨hr, hb4⟩; have bw4 := below_trans bw3 bw3.size hb4; clear hb4 bw3 HC3 d0 d1 d2 d3; rcases hr.cases with ⟨rfl, hp⟩ | ⟨rfl, hp⟩
   ·
    have HP : Hid (In of_ 0 (B.n - 1)) := hp; clear hp hr; go_wp2; go_ret; have l := HL.out; have p := HP.out; exact ⟨RetB.t ⟨HR.out, Or.inr (Or.inr (Or.inr (Or.inr ⟨(show In 8 6 9 from ⟨by omega, by omega⟩), p, l.2.1 rfl, (l.2.2.1 (by decide)).1, (l.2.2.1 (by decide)).2, l.2.2.2 (by decide)⟩)))⟩, bw4⟩
   ·
    have HP : Hid (¬ (In of_ 0 (B.n - 1))) := hp; clear hp hr; go_wp2; go_ret; exact ⟨RetB.f (fun q => HP.out (have u := (EvOk.at6 q (show In 8 6 9 from ⟨by omega, by omega⟩)); u.1)), bw4⟩
  ·
   have HL : Hid (¬ LeftOk 1 of_ holder kind secs.length text) := fun h => hz (hbits.2 h); have tz : (bits .andNot .i64 (fbits of_ holder kind secs.length text : Nat) 1 == 0) = false := by simpa using hz
   clear hbits hz; go_wp2; go_ret; exact ⟨RetB.f (fun q => HL.out (have u := (EvOk.at6 q (show In 8 6 9 from ⟨by omega, by omega⟩)); ⟨fun h => absurd h (by decide), fun _ => u.2.1, fun _ => ⟨u.2.2.1, u.2.2.2.1⟩, fun _ => u.2.2.2.2⟩)), bw3⟩
 by_cases o9 : op = 9
 ·
  subst o9; clear o1 o2 o3 o4 o5 o6 o7 o8; rw [show hapV 9 of_ holder kind ad secs.length ca text = .iface 155 (.agg #[.int .i64 of_]) from rfl]; have m1 := Tryz.m_leaving_namedFields (.int .i64 of_); have n1 := Tryz.n_leaving_namedFields (.int .i64 of_); have m2 := Tryz.m_leaving_fits (.int .i64 of_); have n2 := Tryz.n_leaving_fits (.int .i64 of_)
  go_wp2_with fail
  refine (filledFields_any 9 of_ holder kind ad secs.length ca text _).mono ?_; rintro e w2 ⟨rfl, hb2⟩; have bw2 := below_trans bw bw.size hb2; have HB2 : Hid (w2.heap[w.heap.size]? = some (.cells #[.int .i64 B.n, .slice ao B.orders.length co, .slice al B.locked.length cl, .slice ac B.occ.length cc] 37 (0, 0)) ∧ Cells w2 ad secs.length (iV secs)) := ⟨(hb2.block _ zw).trans HB.out, HC.out.below hb2⟩; have zw2 : w.heap.size < w2.heap.size := Nat.lt_of_lt_of_le zw hb2.size; clear hb2 bw HC HB zw d0 d1 d2 d3 e0 e1 e2 e3 e4 e5
  go_wp2_with fail
  refine (named_ofSection _ _).mono ?_; rintro e w3 ⟨rfl, hb3⟩; have bw3 := below_trans bw2 bw2.size hb3; have HC3 : Hid (Cells w3 ad secs.length (iV secs)) := HB2.out.2.below hb3; have bx3 := (hb3.block _ zw2).trans HB2.out.1; obtain ⟨d0, d1, d2, d3⟩ : w3.cell? ⟨w.heap.size, 0, none⟩ = some (.int .i64 B.n) ∧ w3.cell? ⟨w.heap.size, 1, none⟩ = some (.slice ao B.orders.length co) ∧ w3.cell? ⟨w.heap.size, 2, none⟩ = some (.slice al B.locked.length cl) ∧ w3.cell? ⟨w.heap.size, 3, none⟩ = some (.slice ac B.occ.length cc) := by simp [World.cell?, bx3]
  clear hb3 bw2 HB2 bx3 zw2; have hbits := fbit_cases 1 of_ holder kind secs.length text (by decide)
  by_cases hz : bits .andNot .i64 (fbits of_ holder kind secs.length text : Nat) 1 = 0
  ·
   have HL : Hid (LeftOk 1 of_ holder kind secs.length text) := hbits.1 hz; have tz : (bits .andNot .i64 (fbits of_ holder kind secs.length text : Nat) 1 == 0) = true := by simpa using hz
   clear hbits hz
   go_wp2_with fail
   refine (fits_ofSection of_ B.n _ _ _ _).mono ?_; rintro e w4 ⟨hr, hb4⟩; have bw4 := below_trans bw3 bw3.size hb4; clear hb4 bw3 HC3 d0 d1 d2 d3; rcases hr.cases with ⟨rfl, hp⟩ | ⟨rfl, hp⟩
   ·
    have HP : Hid (In of_ 0 (B.n - 1)) := hp; clear hp hr; go_wp2; go_ret; have l := HL.out; have p := HP.out; exact ⟨RetB.t ⟨HR.out, Or.inr (Or.inr (Or.inr (Or.inr ⟨(show In 9 6 9 from ⟨by omega, by omega⟩), p, l.2.1 rfl, (l.2.2.1 (by decide)).1, (l.2.2.1 (by decide)).2, l.2.2.2 (by decide)⟩)))⟩, bw4⟩
   ·
    have HP : Hid (¬ (In of_ 0 (B.n - 1))) := hp; clear hp hr; go_wp2; go_ret; exact ⟨RetB.f (fun q => HP.out (have u := (EvOk.at6 q (show In 9 6 9 from ⟨by omega, by omega⟩)); u.1)), bw4⟩
  ·
   have HL : Hid (¬ LeftOk 1 of_ holder kind secs.length text) := fun h => hz (hbits.2 h); have tz : (bits .andNot .i64 (fbits of_ holder kind secs.length text : Nat) 1 == 0) = false := by simpa using hz
   clear hbits hz; go_wp2; go_ret; exact ⟨RetB.f (fun q => HL.out (have u := (EvOk.at6 q (show In 9 6 9 from ⟨by omega, by omega⟩)); ⟨fun h => absurd h (by decide), fun _ => u.2.1, fun _ => ⟨u.2.2.1, u.2.2.2.1⟩, fun _ => u.2.2.2.2⟩)), bw3⟩
 have hv : hapV op of_ holder kind ad secs.length ca text = .nilIface := by unfold hapV; rw [if_neg o1, if_neg o2, if_neg o3, if_neg o4, if_neg o5, if_neg o6, if_neg o7, if_neg o8, if_neg o9]
 rw [hv]; have HO : Hid (¬ In op 1 9) := fun q => by unfold In at q; omega
 clear hv o1 o2 o3 o4 o5 o6 o7 o8 o9; go_wp2; go_ret; exact ⟨RetB.f (fun q => HO.out (EvOk.some q)), bw⟩
end Go.Proofs.YtdlaekjofgbjcaaGreatDoor
