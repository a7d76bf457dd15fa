/-
 The contract of spec.EventOk. Mine, by program (wip/evs.py), by template (wip/gen.py).
-/
import Derived.Test.YtdlaekjofgbjcaaGreatDoorEvZ
namespace Go.Proofs.YtdlaekjofgbjcaaGreatDoor
open Go.RowKit
theorem ev_cells {w : World} {p : Nat} {a b c d e f : Value} {t : TypeId} (h : w.heap[p]? = some (.cells #[a, b, c, d, e, f] t (0, 0))) :
  w.cell? ⟨p, 0, none⟩ = some a ∧ w.cell? ⟨p, 1, none⟩ = some b ∧ w.cell? ⟨p, 2, none⟩ = some c ∧ w.cell? ⟨p, 3, none⟩ = some d ∧ w.cell? ⟨p, 4, none⟩ = some e ∧ w.cell? ⟨p, 5, none⟩ = some f := by
 simp [World.cell?, h]
set_option maxHeartbeats 4000000 in
theorem specEventOk_any (v ve : Value) (B : Bk) (E : Ev) (w : World) (ho : B.orders.length ≤ 1048576) (hs : ∀ i, i < B.orders.length → (bX B i).secs.length ≤ 1048576 ∧ (bX B i).holder.size ≤ 1048576) (hw : -9223372036854775808 ≤ B.n ∧ B.n ≤ 9223372036854775807)
  (he1 : E.holder.size ≤ 4294967296) (he2 : E.text.size ≤ 4294967296) (he3 : E.secs.length ≤ 4294967296) (G : BookAt w v B) (GE : EvAt w ve E) :
  Calls Tryz.prog 56 #[v, ve] w fun e w' => RetB e (EvOk B E) ∧ Below w.heap.size w w' := by
 have G0 := G; obtain ⟨ao, co, al, cl, ac, cc, rfl, -⟩ := G; obtain ⟨ad, ca, rfl, KE⟩ := GE; have HG : Hid (BookAt w (.agg #[.int .i64 B.n, .slice ao B.orders.length co, .slice al B.locked.length cl, .slice ac B.occ.length cc]) B ∧ Cells w ad E.secs.length (iV E.secs)) := ⟨G0, KE⟩; clear G0 KE; obtain ⟨op, of_, holder, kind, secs, text⟩ := E; simp only at he1 he2 he3 HG ⊢
 go_enter Tryz.func56, Tryz.ntmps56
 go_wp2_with fail
 have B1 := below2 w (.cells #[.int .i64 B.n, .slice ao B.orders.length co, .slice al B.locked.length cl, .slice ac B.occ.length cc] 37) (.cells #[.int .i64 op, .int .i64 of_, .string holder, .int .i64 kind, .slice ad secs.length ca, .string text] 32); refine (specBookOk_any _ B _ ho hs hw (HG.out.1.below B1)).mono ?_; rintro e w1 ⟨⟨c, rfl, hc⟩, hb1⟩; have bx : w1.heap[w.heap.size]? = some (.cells #[.int .i64 B.n, .slice ao B.orders.length co, .slice al B.locked.length cl, .slice ac B.occ.length cc] 37 (0, 0)) := (hb1.block _ (by simp; omega)).trans ((Deep.blk_alloc_lt _ _ _ (by simp)).trans (Deep.blk_alloc_new _ _)); have by1 : w1.heap[w.heap.size + 1]? = some (.cells #[.int .i64 op, .int .i64 of_, .string holder, .int .i64 kind, .slice ad secs.length ca, .string text] 32 (0, 0)) := (hb1.block _ (by simp)).trans (by have := Deep.blk_alloc_new (w.alloc (.cells #[.int .i64 B.n, .slice ao B.orders.length co, .slice al B.locked.length cl, .slice ac B.occ.length cc] 37)) (.cells #[.int .i64 op, .int .i64 of_, .string holder, .int .i64 kind, .slice ad secs.length ca, .string text] 32); simpa using this); have bw : Below w.heap.size w w1 := B1.trans (hb1.mono (by simp; omega)); clear hb1 B1
 by_cases c0 : c = 0
 case neg =>
  have HR : Hid (¬ Right B) := fun r => c0 (hc.right.2 r); have t : (c != 0) = true := by simpa using c0
  clear hc bx by1 c0 hs; go_wp2; go_ret; exact ⟨RetB.f (fun q => HR.out q.1), bw⟩
 have HR : Hid (Right B) := hc.right.1 c0; have HC : Hid (Cells w1 ad secs.length (iV secs)) := HG.out.2.below bw; subst c0; clear hc hs HG; obtain ⟨d0, d1, d2, d3⟩ : w1.cell? ⟨w.heap.size, 0, none⟩ = some (.int .i64 B.n) ∧ w1.cell? ⟨w.heap.size, 1, none⟩ = some (.slice ao B.orders.length co) ∧ w1.cell? ⟨w.heap.size, 2, none⟩ = some (.slice al B.locked.length cl) ∧ w1.cell? ⟨w.heap.size, 3, none⟩ = some (.slice ac B.occ.length cc) := by simp [World.cell?, bx]
 obtain ⟨e0, e1, e2, e3, e4, e5⟩ := ev_cells by1; clear bx by1 d2 d3
 by_cases o1 : op = 1
 ·
  subst o1
  by_cases h : of_ = 0
  ·
   have t0 : (of_ == 0) = true := by simpa using h
   have H0 : Hid (of_ = 0) := h; clear h
   go_wp2_with fail
   refine (l1name_any holder _ he1).mono ?_; rintro e w' ⟨hr, rfl⟩; rcases hr.cases with ⟨rfl, hp⟩ | ⟨rfl, hp⟩
   ·
    have H1 : Hid (NameOk holder) := hp; clear hp hr
    go_wp2_with fail
    refine (l1in_any kind 1 2 _).mono ?_; rintro e w' ⟨hr, rfl⟩; rcases hr.cases with ⟨rfl, hp⟩ | ⟨rfl, hp⟩
    ·
     have H2 : Hid (In kind 1 2) := hp; clear hp hr
     go_wp2_with fail
     refine (l1list_any ad ca secs.length (fun i => secs.getD i 0) B.n _ he3 (by have := HR.out.1.1; unfold In at this; omega) (by have := HR.out.1.1; unfold In at this; omega) HC.out).mono ?_; rintro e w' ⟨hr, rfl⟩; rcases hr.cases with ⟨rfl, hp⟩ | ⟨rfl, hp⟩
     ·
      have H3 : Hid (ListOk secs.length (fun i => secs.getD i 0) B.n) := hp; clear hp hr
      by_cases h : text.size = 0
      ·
       have t4 : text.toList.isEmpty = true := isE_t h; have H4 : Hid (text.size = 0) := h; clear h; go_wp2; go_ret; exact ⟨RetB.t ⟨HR.out, Or.inl ⟨rfl, H0.out, H1.out, H2.out, H3.out, H4.out⟩⟩, bw⟩
      ·
       have t4 : text.toList.isEmpty = false := isE_f h; have H4 : Hid (¬ text.size = 0) := h; clear h; go_wp2; go_ret; exact ⟨RetB.f (fun q => H4.out (EvOk.at1 q rfl).2.2.2.2), bw⟩
     ·
      have H3 : Hid (¬ ListOk secs.length (fun i => secs.getD i 0) B.n) := hp; clear hp hr; go_wp2; go_ret; exact ⟨RetB.f (fun q => H3.out (EvOk.at1 q rfl).2.2.2.1), bw⟩
    ·
     have H2 : Hid (¬ In kind 1 2) := hp; clear hp hr; go_wp2; go_ret; exact ⟨RetB.f (fun q => H2.out (EvOk.at1 q rfl).2.2.1), bw⟩
   ·
    have H1 : Hid (¬ NameOk holder) := hp; clear hp hr; go_wp2; go_ret; exact ⟨RetB.f (fun q => H1.out (EvOk.at1 q rfl).2.1), bw⟩
  ·
   have t0 : (of_ == 0) = false := by simpa using h
   have H0 : Hid (¬ of_ = 0) := h; clear h; go_wp2; go_ret; exact ⟨RetB.f (fun q => H0.out (EvOk.at1 q rfl).1), bw⟩
 by_cases o2 : op = 2
 ·
  subst o2; clear o1
  go_wp2_with fail
  refine (l1in_any of_ 0 ((B.orders.length : Int) - 1) _).mono ?_; rintro e w' ⟨hr, rfl⟩; rcases hr.cases with ⟨rfl, hp⟩ | ⟨rfl, hp⟩
  ·
   have H0 : Hid (In of_ 0 ((B.orders.length : Int) - 1)) := hp; clear hp hr
   by_cases h : holder.size = 0
   ·
    have t1 : holder.toList.isEmpty = true := isE_t h; have H1 : Hid (holder.size = 0) := h; clear h
    by_cases h : kind = 0
    ·
     have t2 : (kind == 0) = true := by simpa using h
     have H2 : Hid (kind = 0) := h; clear h
     by_cases h : secs.length = 0
     ·
      have t3 : ((secs.length : Int) == 0) = true := len0_t h; have H3 : Hid (secs.length = 0) := h; clear h
      by_cases h : text.size = 0
      ·
       have t4 : text.toList.isEmpty = true := isE_t h; have H4 : Hid (text.size = 0) := h; clear h; go_wp2; go_ret; exact ⟨RetB.t ⟨HR.out, Or.inr (Or.inl ⟨Or.inl rfl, H0.out, H1.out, H2.out, H3.out, H4.out⟩)⟩, bw⟩
      ·
       have t4 : text.toList.isEmpty = false := isE_f h; have H4 : Hid (¬ text.size = 0) := h; clear h; go_wp2; go_ret; exact ⟨RetB.f (fun q => H4.out (EvOk.at25 q (Or.inl rfl)).2.2.2.2), bw⟩
     ·
      have t3 : ((secs.length : Int) == 0) = false := len0_f h; have H3 : Hid (¬ secs.length = 0) := h; clear h; go_wp2; go_ret; exact ⟨RetB.f (fun q => H3.out (EvOk.at25 q (Or.inl rfl)).2.2.2.1), bw⟩
    ·
     have t2 : (kind == 0) = false := by simpa using h
     have H2 : Hid (¬ kind = 0) := h; clear h; go_wp2; go_ret; exact ⟨RetB.f (fun q => H2.out (EvOk.at25 q (Or.inl rfl)).2.2.1), bw⟩
   ·
    have t1 : holder.toList.isEmpty = false := isE_f h; have H1 : Hid (¬ holder.size = 0) := h; clear h; go_wp2; go_ret; exact ⟨RetB.f (fun q => H1.out (EvOk.at25 q (Or.inl rfl)).2.1), bw⟩
  ·
   have H0 : Hid (¬ In of_ 0 ((B.orders.length : Int) - 1)) := hp; clear hp hr; go_wp2; go_ret; exact ⟨RetB.f (fun q => H0.out (EvOk.at25 q (Or.inl rfl)).1), bw⟩
 by_cases o3 : op = 3
 ·
  subst o3; clear o1 o2
  go_wp2_with fail
  refine (l1in_any of_ 0 ((B.orders.length : Int) - 1) _).mono ?_; rintro e w' ⟨hr, rfl⟩; rcases hr.cases with ⟨rfl, hp⟩ | ⟨rfl, hp⟩
  ·
   have H0 : Hid (In of_ 0 ((B.orders.length : Int) - 1)) := hp; clear hp hr
   go_wp2_with fail
   refine (l1name_any holder _ he1).mono ?_; rintro e w' ⟨hr, rfl⟩; rcases hr.cases with ⟨rfl, hp⟩ | ⟨rfl, hp⟩
   ·
    have H1 : Hid (NameOk holder) := hp; clear hp hr
    by_cases h : kind = 0
    ·
     have t2 : (kind == 0) = true := by simpa using h
     have H2 : Hid (kind = 0) := h; clear h
     by_cases h : secs.length = 0
     ·
      have t3 : ((secs.length : Int) == 0) = true := len0_t h; have H3 : Hid (secs.length = 0) := h; clear h
      by_cases h : text.size ≤ 200
      ·
       have t4 : decide ((text.size : Int) ≤ 200) = true := decide_eq_true (by omega); have H4 : Hid (text.size ≤ 200) := h; clear h; go_wp2; go_ret; exact ⟨RetB.t ⟨HR.out, Or.inr (Or.inr (Or.inl ⟨rfl, H0.out, H1.out, H2.out, H3.out, H4.out⟩))⟩, bw⟩
      ·
       have t4 : decide ((text.size : Int) ≤ 200) = false := decide_eq_false (by omega); have H4 : Hid (¬ text.size ≤ 200) := h; clear h; go_wp2; go_ret; exact ⟨RetB.f (fun q => H4.out (EvOk.at3 q rfl).2.2.2.2), bw⟩
     ·
      have t3 : ((secs.length : Int) == 0) = false := len0_f h; have H3 : Hid (¬ secs.length = 0) := h; clear h; go_wp2; go_ret; exact ⟨RetB.f (fun q => H3.out (EvOk.at3 q rfl).2.2.2.1), bw⟩
    ·
     have t2 : (kind == 0) = false := by simpa using h
     have H2 : Hid (¬ kind = 0) := h; clear h; go_wp2; go_ret; exact ⟨RetB.f (fun q => H2.out (EvOk.at3 q rfl).2.2.1), bw⟩
   ·
    have H1 : Hid (¬ NameOk holder) := hp; clear hp hr; go_wp2; go_ret; exact ⟨RetB.f (fun q => H1.out (EvOk.at3 q rfl).2.1), bw⟩
  ·
   have H0 : Hid (¬ In of_ 0 ((B.orders.length : Int) - 1)) := hp; clear hp hr; go_wp2; go_ret; exact ⟨RetB.f (fun q => H0.out (EvOk.at3 q rfl).1), bw⟩
 by_cases o4 : op = 4
 ·
  subst o4; clear o1 o2 o3
  go_wp2_with fail
  refine (l1in_any of_ 0 ((B.orders.length : Int) - 1) _).mono ?_; rintro e w' ⟨hr, rfl⟩; rcases hr.cases with ⟨rfl, hp⟩ | ⟨rfl, hp⟩
  ·
   have H0 : Hid (In of_ 0 ((B.orders.length : Int) - 1)) := hp; clear hp hr
   go_wp2_with fail
   refine (l1name_any holder _ he1).mono ?_; rintro e w' ⟨hr, rfl⟩; rcases hr.cases with ⟨rfl, hp⟩ | ⟨rfl, hp⟩
   ·
    have H1 : Hid (NameOk holder) := hp; clear hp hr
    by_cases h : kind = 0
    ·
     have t2 : (kind == 0) = true := by simpa using h
     have H2 : Hid (kind = 0) := h; clear h
     by_cases h : secs.length = 0
     ·
      have t3 : ((secs.length : Int) == 0) = true := len0_t h; have H3 : Hid (secs.length = 0) := h; clear h
      by_cases h : text.size = 0
      ·
       have t4 : text.toList.isEmpty = true := isE_t h; have H4 : Hid (text.size = 0) := h; clear h; go_wp2; go_ret; exact ⟨RetB.t ⟨HR.out, Or.inr (Or.inr (Or.inr (Or.inl ⟨rfl, H0.out, H1.out, H2.out, H3.out, H4.out⟩)))⟩, bw⟩
      ·
       have t4 : text.toList.isEmpty = false := isE_f h; have H4 : Hid (¬ text.size = 0) := h; clear h; go_wp2; go_ret; exact ⟨RetB.f (fun q => H4.out (EvOk.at4 q rfl).2.2.2.2), bw⟩
     ·
      have t3 : ((secs.length : Int) == 0) = false := len0_f h; have H3 : Hid (¬ secs.length = 0) := h; clear h; go_wp2; go_ret; exact ⟨RetB.f (fun q => H3.out (EvOk.at4 q rfl).2.2.2.1), bw⟩
    ·
     have t2 : (kind == 0) = false := by simpa using h
     have H2 : Hid (¬ kind = 0) := h; clear h; go_wp2; go_ret; exact ⟨RetB.f (fun q => H2.out (EvOk.at4 q rfl).2.2.1), bw⟩
   ·
    have H1 : Hid (¬ NameOk holder) := hp; clear hp hr; go_wp2; go_ret; exact ⟨RetB.f (fun q => H1.out (EvOk.at4 q rfl).2.1), bw⟩
  ·
   have H0 : Hid (¬ In of_ 0 ((B.orders.length : Int) - 1)) := hp; clear hp hr; go_wp2; go_ret; exact ⟨RetB.f (fun q => H0.out (EvOk.at4 q rfl).1), bw⟩
 by_cases o5 : op = 5
 ·
  subst o5; clear o1 o2 o3 o4
  go_wp2_with fail
  refine (l1in_any of_ 0 ((B.orders.length : Int) - 1) _).mono ?_; rintro e w' ⟨hr, rfl⟩; rcases hr.cases with ⟨rfl, hp⟩ | ⟨rfl, hp⟩
  ·
   have H0 : Hid (In of_ 0 ((B.orders.length : Int) - 1)) := hp; clear hp hr
   by_cases h : holder.size = 0
   ·
    have t1 : holder.toList.isEmpty = true := isE_t h; have H1 : Hid (holder.size = 0) := h; clear h
    by_cases h : kind = 0
    ·
     have t2 : (kind == 0) = true := by simpa using h
     have H2 : Hid (kind = 0) := h; clear h
     by_cases h : secs.length = 0
     ·
      have t3 : ((secs.length : Int) == 0) = true := len0_t h; have H3 : Hid (secs.length = 0) := h; clear h
      by_cases h : text.size = 0
      ·
       have t4 : text.toList.isEmpty = true := isE_t h; have H4 : Hid (text.size = 0) := h; clear h; go_wp2; go_ret; exact ⟨RetB.t ⟨HR.out, Or.inr (Or.inl ⟨Or.inr rfl, H0.out, H1.out, H2.out, H3.out, H4.out⟩)⟩, bw⟩
      ·
       have t4 : text.toList.isEmpty = false := isE_f h; have H4 : Hid (¬ text.size = 0) := h; clear h; go_wp2; go_ret; exact ⟨RetB.f (fun q => H4.out (EvOk.at25 q (Or.inr rfl)).2.2.2.2), bw⟩
     ·
      have t3 : ((secs.length : Int) == 0) = false := len0_f h; have H3 : Hid (¬ secs.length = 0) := h; clear h; go_wp2; go_ret; exact ⟨RetB.f (fun q => H3.out (EvOk.at25 q (Or.inr rfl)).2.2.2.1), bw⟩
    ·
     have t2 : (kind == 0) = false := by simpa using h
     have H2 : Hid (¬ kind = 0) := h; clear h; go_wp2; go_ret; exact ⟨RetB.f (fun q => H2.out (EvOk.at25 q (Or.inr rfl)).2.2.1), bw⟩
   ·
    have t1 : holder.toList.isEmpty = false := isE_f h; have H1 : Hid (¬ holder.size = 0) := h; clear h; go_wp2; go_ret; exact ⟨RetB.f (fun q => H1.out (EvOk.at25 q (Or.inr rfl)).2.1), bw⟩
  ·
   have H0 : Hid (¬ In of_ 0 ((B.orders.length : Int) - 1)) := hp; clear hp hr; go_wp2; go_ret; exact ⟨RetB.f (fun q => H0.out (EvOk.at25 q (Or.inr rfl)).1), bw⟩
 by_cases o6 : op = 6
 ·
  subst o6; clear o1 o2 o3 o4 o5; have nn := HR.out.1.1; unfold In at nn
  go_wp2_with fail
  refine (l1in_any of_ 0 (B.n - 1) _).mono ?_; rintro e w' ⟨hr, rfl⟩; rcases hr.cases with ⟨rfl, hp⟩ | ⟨rfl, hp⟩
  ·
   have H0 : Hid (In of_ 0 (B.n - 1)) := hp; clear hp hr
   by_cases h : holder.size = 0
   ·
    have t1 : holder.toList.isEmpty = true := isE_t h; have H1 : Hid (holder.size = 0) := h; clear h
    by_cases h : kind = 0
    ·
     have t2 : (kind == 0) = true := by simpa using h
     have H2 : Hid (kind = 0) := h; clear h
     by_cases h : secs.length = 0
     ·
      have t3 : ((secs.length : Int) == 0) = true := len0_t h; have H3 : Hid (secs.length = 0) := h; clear h
      by_cases h : text.size = 0
      ·
       have t4 : text.toList.isEmpty = true := isE_t h; have H4 : Hid (text.size = 0) := h; clear h; go_wp2; go_ret; exact ⟨RetB.t ⟨HR.out, Or.inr (Or.inr (Or.inr (Or.inr ⟨(show In 6 6 9 from ⟨by omega, by omega⟩), H0.out, H1.out, H2.out, H3.out, H4.out⟩)))⟩, bw⟩
      ·
       have t4 : text.toList.isEmpty = false := isE_f h; have H4 : Hid (¬ text.size = 0) := h; clear h; go_wp2; go_ret; exact ⟨RetB.f (fun q => H4.out (EvOk.at6 q (show In 6 6 9 from ⟨by omega, by omega⟩)).2.2.2.2), bw⟩
     ·
      have t3 : ((secs.length : Int) == 0) = false := len0_f h; have H3 : Hid (¬ secs.length = 0) := h; clear h; go_wp2; go_ret; exact ⟨RetB.f (fun q => H3.out (EvOk.at6 q (show In 6 6 9 from ⟨by omega, by omega⟩)).2.2.2.1), bw⟩
    ·
     have t2 : (kind == 0) = false := by simpa using h
     have H2 : Hid (¬ kind = 0) := h; clear h; go_wp2; go_ret; exact ⟨RetB.f (fun q => H2.out (EvOk.at6 q (show In 6 6 9 from ⟨by omega, by omega⟩)).2.2.1), bw⟩
   ·
    have t1 : holder.toList.isEmpty = false := isE_f h; have H1 : Hid (¬ holder.size = 0) := h; clear h; go_wp2; go_ret; exact ⟨RetB.f (fun q => H1.out (EvOk.at6 q (show In 6 6 9 from ⟨by omega, by omega⟩)).2.1), bw⟩
  ·
   have H0 : Hid (¬ In of_ 0 (B.n - 1)) := hp; clear hp hr; go_wp2; go_ret; exact ⟨RetB.f (fun q => H0.out (EvOk.at6 q (show In 6 6 9 from ⟨by omega, by omega⟩)).1), bw⟩
 by_cases o7 : op = 7
 ·
  subst o7; clear o1 o2 o3 o4 o5 o6; have nn := HR.out.1.1; unfold In at nn
  go_wp2_with fail
  refine (l1in_any of_ 0 (B.n - 1) _).mono ?_; rintro e w' ⟨hr, rfl⟩; rcases hr.cases with ⟨rfl, hp⟩ | ⟨rfl, hp⟩
  ·
   have H0 : Hid (In of_ 0 (B.n - 1)) := hp; clear hp hr
   by_cases h : holder.size = 0
   ·
    have t1 : holder.toList.isEmpty = true := isE_t h; have H1 : Hid (holder.size = 0) := h; clear h
    by_cases h : kind = 0
    ·
     have t2 : (kind == 0) = true := by simpa using h
     have H2 : Hid (kind = 0) := h; clear h
     by_cases h : secs.length = 0
     ·
      have t3 : ((secs.length : Int) == 0) = true := len0_t h; have H3 : Hid (secs.length = 0) := h; clear h
      by_cases h : text.size = 0
      ·
       have t4 : text.toList.isEmpty = true := isE_t h; have H4 : Hid (text.size = 0) := h; clear h; go_wp2; go_ret; exact ⟨RetB.t ⟨HR.out, Or.inr (Or.inr (Or.inr (Or.inr ⟨(show In 7 6 9 from ⟨by omega, by omega⟩), H0.out, H1.out, H2.out, H3.out, H4.out⟩)))⟩, bw⟩
      ·
       have t4 : text.toList.isEmpty = false := isE_f h; have H4 : Hid (¬ text.size = 0) := h; clear h; go_wp2; go_ret; exact ⟨RetB.f (fun q => H4.out (EvOk.at6 q (show In 7 6 9 from ⟨by omega, by omega⟩)).2.2.2.2), bw⟩
     ·
      have t3 : ((secs.length : Int) == 0) = false := len0_f h; have H3 : Hid (¬ secs.length = 0) := h; clear h; go_wp2; go_ret; exact ⟨RetB.f (fun q => H3.out (EvOk.at6 q (show In 7 6 9 from ⟨by omega, by omega⟩)).2.2.2.1), bw⟩
    ·
     have t2 : (kind == 0) = false := by simpa using h
     have H2 : Hid (¬ kind = 0) := h; clear h; go_wp2; go_ret; exact ⟨RetB.f (fun q => H2.out (EvOk.at6 q (show In 7 6 9 from ⟨by omega, by omega⟩)).2.2.1), bw⟩
   ·
    have t1 : holder.toList.isEmpty = false := isE_f h; have H1 : Hid (¬ holder.size = 0) := h; clear h; go_wp2; go_ret; exact ⟨RetB.f (fun q => H1.out (EvOk.at6 q (show In 7 6 9 from ⟨by omega, by omega⟩)).2.1), bw⟩
  ·
   have H0 : Hid (¬ In of_ 0 (B.n - 1)) := hp; clear hp hr; go_wp2; go_ret; exact ⟨RetB.f (fun q => H0.out (EvOk.at6 q (show In 7 6 9 from ⟨by omega, by omega⟩)).1), bw⟩
 by_cases o8 : op = 8
 ·
  subst o8; clear o1 o2 o3 o4 o5 o6 o7; have nn := HR.out.1.1; unfold In at nn
  go_wp2_with fail
  refine (l1in_any of_ 0 (B.n - 1) _).mono ?_; rintro e w' ⟨hr, rfl⟩; rcases hr.cases with ⟨rfl, hp⟩ | ⟨rfl, hp⟩
  ·
   have H0 : Hid (In of_ 0 (B.n - 1)) := hp; clear hp hr
   by_cases h : holder.size = 0
   ·
    have t1 : holder.toList.isEmpty = true := isE_t h; have H1 : Hid (holder.size = 0) := h; clear h
    by_cases h : kind = 0
    ·
     have t2 : (kind == 0) = true := by simpa using h
     have H2 : Hid (kind = 0) := h; clear h
     by_cases h : secs.length = 0
     ·
      have t3 : ((secs.length : Int) == 0) = true := len0_t h; have H3 : Hid (secs.length = 0) := h; clear h
      by_cases h : text.size = 0
      ·
       have t4 : text.toList.isEmpty = true := isE_t h; have H4 : Hid (text.size = 0) := h; clear h; go_wp2; go_ret; exact ⟨RetB.t ⟨HR.out, Or.inr (Or.inr (Or.inr (Or.inr ⟨(show In 8 6 9 from ⟨by omega, by omega⟩), H0.out, H1.out, H2.out, H3.out, H4.out⟩)))⟩, bw⟩
      ·
       have t4 : text.toList.isEmpty = false := isE_f h; have H4 : Hid (¬ text.size = 0) := h; clear h; go_wp2; go_ret; exact ⟨RetB.f (fun q => H4.out (EvOk.at6 q (show In 8 6 9 from ⟨by omega, by omega⟩)).2.2.2.2), bw⟩
     ·
      have t3 : ((secs.length : Int) == 0) = false := len0_f h; have H3 : Hid (¬ secs.length = 0) := h; clear h; go_wp2; go_ret; exact ⟨RetB.f (fun q => H3.out (EvOk.at6 q (show In 8 6 9 from ⟨by omega, by omega⟩)).2.2.2.1), bw⟩
    ·
     have t2 : (kind == 0) = false := by simpa using h
     have H2 : Hid (¬ kind = 0) := h; clear h; go_wp2; go_ret; exact ⟨RetB.f (fun q => H2.out (EvOk.at6 q (show In 8 6 9 from ⟨by omega, by omega⟩)).2.2.1), bw⟩
   ·
    have t1 : holder.toList.isEmpty = false := isE_f h; have H1 : Hid (¬ holder.size = 0) := h; clear h; go_wp2; go_ret; exact ⟨RetB.f (fun q => H1.out (EvOk.at6 q (show In 8 6 9 from ⟨by omega, by omega⟩)).2.1), bw⟩
  ·
   have H0 : Hid (¬ In of_ 0 (B.n - 1)) := hp; clear hp hr; go_wp2; go_ret; exact ⟨RetB.f (fun q => H0.out (EvOk.at6 q (show In 8 6 9 from ⟨by omega, by omega⟩)).1), bw⟩
 by_cases o9 : op = 9
 ·
  subst o9; clear o1 o2 o3 o4 o5 o6 o7 o8; have nn := HR.out.1.1; unfold In at nn
  go_wp2_with fail
  refine (l1in_any of_ 0 (B.n - 1) _).mono ?_; rintro e w' ⟨hr, rfl⟩; rcases hr.cases with ⟨rfl, hp⟩ | ⟨rfl, hp⟩
  ·
   have H0 : Hid (In of_ 0 (B.n - 1)) := hp; clear hp hr
   by_cases h : holder.size = 0
   ·
    have t1 : holder.toList.isEmpty = true := isE_t h; have H1 : Hid (holder.size = 0) := h; clear h
    by_cases h : kind = 0
    ·
     have t2 : (kind == 0) = true := by simpa using h
     have H2 : Hid (kind = 0) := h; clear h
     by_cases h : secs.length = 0
     ·
      have t3 : ((secs.length : Int) == 0) = true := len0_t h; have H3 : Hid (secs.length = 0) := h; clear h
      by_cases h : text.size = 0
      ·
       have t4 : text.toList.isEmpty = true := isE_t h; have H4 : Hid (text.size = 0) := h; clear h; go_wp2; go_ret; exact ⟨RetB.t ⟨HR.out, Or.inr (Or.inr (Or.inr (Or.inr ⟨(show In 9 6 9 from ⟨by omega, by omega⟩), H0.out, H1.out, H2.out, H3.out, H4.out⟩)))⟩, bw⟩
      ·
       have t4 : text.toList.isEmpty = false := isE_f h; have H4 : Hid (¬ text.size = 0) := h; clear h; go_wp2; go_ret; exact ⟨RetB.f (fun q => H4.out (EvOk.at6 q (show In 9 6 9 from ⟨by omega, by omega⟩)).2.2.2.2), bw⟩
     ·
      have t3 : ((secs.length : Int) == 0) = false := len0_f h; have H3 : Hid (¬ secs.length = 0) := h; clear h; go_wp2; go_ret; exact ⟨RetB.f (fun q => H3.out (EvOk.at6 q (show In 9 6 9 from ⟨by omega, by omega⟩)).2.2.2.1), bw⟩
    ·
     have t2 : (kind == 0) = false := by simpa using h
     have H2 : Hid (¬ kind = 0) := h; clear h; go_wp2; go_ret; exact ⟨RetB.f (fun q => H2.out (EvOk.at6 q (show In 9 6 9 from ⟨by omega, by omega⟩)).2.2.1), bw⟩
   ·
    have t1 : holder.toList.isEmpty = false := isE_f h; have H1 : Hid (¬ holder.size = 0) := h; clear h; go_wp2; go_ret; exact ⟨RetB.f (fun q => H1.out (EvOk.at6 q (show In 9 6 9 from ⟨by omega, by omega⟩)).2.1), bw⟩
  ·
   have H0 : Hid (¬ In of_ 0 (B.n - 1)) := hp; clear hp hr; go_wp2; go_ret; exact ⟨RetB.f (fun q => H0.out (EvOk.at6 q (show In 9 6 9 from ⟨by omega, by omega⟩)).1), bw⟩
 have t1 : (op == 1) = false := by simpa using o1
 have t2 : (op == 2) = false := by simpa using o2
 have t3 : (op == 3) = false := by simpa using o3
 have t4 : (op == 4) = false := by simpa using o4
 have t5 : (op == 5) = false := by simpa using o5
 have t6 : (op == 6) = false := by simpa using o6
 have t7 : (op == 7) = false := by simpa using o7
 have t8 : (op == 8) = false := by simpa using o8
 have t9 : (op == 9) = false := by simpa using o9
 have HO : Hid (¬ In op 1 9) := fun q => by unfold In at q; omega
 clear o1 o2 o3 o4 o5 o6 o7 o8 o9; go_wp2; go_ret; exact ⟨RetB.f (fun q => HO.out (EvOk.some q)), bw⟩
end Go.Proofs.YtdlaekjofgbjcaaGreatDoor
