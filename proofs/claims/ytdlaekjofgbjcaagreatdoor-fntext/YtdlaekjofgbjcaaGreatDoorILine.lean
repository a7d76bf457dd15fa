/-
 The contracts of impl.tellable, impl.orderWords, impl.Line. Mine, by program (wip/iline.py), by template (wip/gen.py).
-/
import Derived.Test.YtdlaekjofgbjcaaGreatDoorLineT
import Derived.Test.YtdlaekjofgbjcaaGreatDoorEvS
import Derived.Test.YtdlaekjofgbjcaaGreatDoorEvM
import Derived.Test.YtdlaekjofgbjcaaGreatDoorEvI2
import Derived.Test.YtdlaekjofgbjcaaGreatDoorIText
import Derived.Test.YtdlaekjofgbjcaaGreatDoorText2
import Derived.Deep.RegionHeld3
namespace Go.Proofs.YtdlaekjofgbjcaaGreatDoor
open Go.RowKit
theorem indexByte_mem (l : List UInt8) (c : UInt8) : 0 ≤ Lib.indexByte l c ↔ c ∈ l := by
 induction l with
 | nil => simp [Lib.indexByte]
 | cons b l ih =>
  simp only [Lib.indexByte, List.mem_cons]
  by_cases h : b = c
  ·
   subst h; simp
  ·
   have hb : (b == c) = false := by simpa using h
   rw [hb]; simp only [Bool.false_eq_true, if_false]; have g := Lib.indexByte_ge l c
   by_cases q : Lib.indexByte l c = -1
   ·
    rw [if_pos (by simpa using q)]; have n : ¬ c ∈ l := fun m => by have := ih.2 m; omega
    simp [n, Ne.symm h]
   ·
    rw [if_neg (by simpa using q)]; have p : 0 ≤ Lib.indexByte l c := by omega
    simp [ih.1 p]; omega
theorem noNl_mem (s : ByteArray) : NoNl s ↔ (10 : UInt8) ∉ s.data.toList := by
 constructor
 ·
  intro h m; obtain ⟨i, hi, e⟩ := List.getElem_of_mem m; refine h i (by simpa using hi) ?_; unfold chr; rw [List.getD_eq_getElem?_getD, List.getElem?_eq_getElem hi, Option.getD_some, e]; rfl
 ·
  intro h i hi e; have hi' : i < s.data.toList.length := by simpa using hi
  unfold chr at e; rw [List.getD_eq_getElem?_getD, List.getElem?_eq_getElem hi', Option.getD_some] at e; have e2 : s.data.toList[i] = 10 := UInt8.toNat_inj.1 e; exact h (e2 ▸ List.getElem_mem hi')
theorem contains_any (s : ByteArray) (w : World) :
  Calls Tryz.prog 71 #[.string s, .string ⟨#[10]⟩] w fun e w' => RetB e (¬ NoNl s) ∧ w' = w := by
 refine (Tryz.strings_Contains_one s 10 w).mono ?_; rintro e w' ⟨rfl, rfl⟩; refine ⟨⟨_, rfl, ?_⟩, rfl⟩; rw [noNl_mem, Classical.not_not, decide_eq_true_iff]; exact indexByte_mem _ _
set_option maxRecDepth 20000 in
set_option maxHeartbeats 8000000 in
theorem tellable_any (ve : Value) (E : Ev) (w : World) (he1 : E.holder.size ≤ 1048576) (_he2 : E.text.size ≤ 1048576) (he3 : E.secs.length ≤ 1048576) (GE : EvAt w ve E) :
  Calls Tryz.prog 34 #[ve] w fun e w' => RetB e (LineOk E) ∧ Below w.heap.size w w' := by
 obtain ⟨ad, ca, rfl, KE⟩ := GE; obtain ⟨op, of_, holder, kind, secs, text⟩ := E; simp only at he1 he3 KE ⊢; have B1 := below1 w (.cells #[.int .i64 op, .int .i64 of_, .string holder, .int .i64 kind, .slice ad secs.length ca, .string text] 32); have HC0 : Hid (Cells w ad secs.length (iV secs)) := KE; clear KE _he2
 go_enter Tryz.func34, Tryz.ntmps34
 go_wp2_with fail
 refine (happeningOf_any op of_ holder kind ad secs.length ca text _).mono ?_; rintro e w1 ⟨rfl, hb1⟩; have by1 : w1.heap[w.heap.size]? = some (.cells #[.int .i64 op, .int .i64 of_, .string holder, .int .i64 kind, .slice ad secs.length ca, .string text] 32 (0, 0)) := (hb1.block _ (by simp)).trans (Deep.blk_alloc_new _ _); have bw : Below w.heap.size w w1 := B1.trans (hb1.mono (by simp)); have HB : Hid (Cells w1 ad secs.length (iV secs) ∧ w1.heap[w.heap.size]? = some (.cells #[.int .i64 op, .int .i64 of_, .string holder, .int .i64 kind, .slice ad secs.length ca, .string text] 32 (0, 0))) := ⟨HC0.out.below bw, by1⟩; have zw : w.heap.size < w1.heap.size := by have := hb1.size; simp at this; omega
 obtain ⟨e0, e1, e2, e3, e4, e5⟩ := ev_cells by1; clear hb1 by1 B1 HC0
 by_cases o1 : op = 1
 ·
  subst o1; rw [show hapV 1 of_ holder kind ad secs.length ca text = .iface 134 (.agg #[.string holder, .int .i64 kind, .slice ad secs.length ca, .int .i64 1]) from rfl]; have m1 := Tryz.m_writing_namedFields (.string holder) (.int .i64 kind) (.slice ad secs.length ca) (.int .i64 1); have n1 := Tryz.n_writing_namedFields (.string holder) (.int .i64 kind) (.slice ad secs.length ca) (.int .i64 1)
  go_wp2_with fail
  refine (filledFields_any 1 of_ holder kind ad secs.length ca text _).mono ?_; rintro e w2 ⟨rfl, hb2⟩; have bw2 := below_trans bw bw.size hb2; have HB2 : Hid (Cells w2 ad secs.length (iV secs) ∧ w2.heap[w.heap.size]? = some (.cells #[.int .i64 1, .int .i64 of_, .string holder, .int .i64 kind, .slice ad secs.length ca, .string text] 32 (0, 0))) := ⟨HB.out.1.below hb2, (hb2.block _ zw).trans HB.out.2⟩; have zw2 : w.heap.size < w2.heap.size := Nat.lt_of_lt_of_le zw hb2.size; clear hb2 bw HB zw e0 e1 e2 e3 e4 e5
  go_wp2_with fail
  refine (named_writing _ (.string holder) (.int .i64 kind) (.slice ad secs.length ca) (.int .i64 1) rfl _).mono ?_; rintro e w3 ⟨rfl, hb3⟩; have bw3 := below_trans bw2 bw2.size hb3; have HB3 : Hid (Cells w3 ad secs.length (iV secs) ∧ w3.heap[w.heap.size]? = some (.cells #[.int .i64 1, .int .i64 of_, .string holder, .int .i64 kind, .slice ad secs.length ca, .string text] 32 (0, 0))) := ⟨HB2.out.1.below hb3, (hb3.block _ zw2).trans HB2.out.2⟩; have zw3 : w.heap.size < w3.heap.size := Nat.lt_of_lt_of_le zw2 hb3.size; clear hb3 bw2 HB2 zw2; have hbits := fbit_cases 14 of_ holder kind secs.length text (by decide)
  by_cases hz : bits .andNot .i64 (fbits of_ holder kind secs.length text : Nat) 14 = 0
  ·
   have HL : Hid (LeftOk 14 of_ holder kind secs.length text) := hbits.1 hz; have tz : (bits .andNot .i64 (fbits of_ holder kind secs.length text : Nat) 14 == 0) = true := by simpa using hz
   have tz' : (bits .andNot .i64 (fbits of_ holder kind secs.length text : Nat) 14 != 0) = false := by simpa using hz
   clear hbits hz
   go_wp2_with fail
   refine (named_writing _ (.string holder) (.int .i64 kind) (.slice ad secs.length ca) (.int .i64 1) rfl _).mono ?_; rintro e w4 ⟨rfl, hb4⟩; have bw4 := below_trans bw3 bw3.size hb4; have HB4 : Hid (Cells w4 ad secs.length (iV secs)) := HB3.out.1.below hb4; obtain ⟨e0, e1, e2, e3, e4, e5⟩ := ev_cells ((hb4.block _ zw3).trans HB3.out.2); clear hb4 bw3 HB3 zw3; have tb : bits .and .i64 14 2 = 2 := by decide
   go_wp2_with fail
   refine (nameOk_any holder _ (by omega)).mono ?_; rintro e w' ⟨hr, hw'⟩; obtain rfl := hw'.symm; rcases hr.cases with ⟨rfl, hp⟩ | ⟨rfl, hp⟩
   ·
    have H1 : Hid (NameOk holder) := hp; clear hp hr
    go_wp2_with fail
    refine (kindOk_any kind _).mono ?_; rintro e w' ⟨hr, hw'⟩; obtain rfl := hw'.symm; rcases hr.cases with ⟨rfl, hp⟩ | ⟨rfl, hp⟩
    ·
     have H2 : Hid (In kind 1 2) := hp; clear hp hr
     go_wp2_with fail
     refine (sectionListOk_any ad ca secs.length (fun i => secs.getD i 0) 60 _ (by omega) HB4.out).mono ?_; rintro e w' ⟨hr, hw'⟩; obtain rfl := hw'.symm; rcases hr.cases with ⟨rfl, hp⟩ | ⟨rfl, hp⟩
     ·
      have H3 : Hid (ListOk secs.length (fun i => secs.getD i 0) 60) := hp; clear hp hr; go_wp2; go_ret; exact ⟨RetB.t (Or.inl ⟨rfl, HL.out.1 rfl, H1.out, H2.out, H3.out, HL.out.2.2.2 (by decide)⟩), bw4⟩
     ·
      have H3 : Hid (¬ ListOk secs.length (fun i => secs.getD i 0) 60) := hp; clear hp hr; go_wp2; go_ret; exact ⟨RetB.f (fun q => H3.out (LineOk.w q rfl).2.2.2.2.1), bw4⟩
    ·
     have H2 : Hid (¬ In kind 1 2) := hp; clear hp hr; go_wp2; go_ret; exact ⟨RetB.f (fun q => H2.out (LineOk.w q rfl).2.2.2.1), bw4⟩
   ·
    have H1 : Hid (¬ NameOk holder) := hp; clear hp hr; go_wp2; go_ret; exact ⟨RetB.f (fun q => H1.out (LineOk.w q rfl).2.2.1), bw4⟩
  ·
   have HL : Hid (¬ LeftOk 14 of_ holder kind secs.length text) := fun h => hz (hbits.2 h); have tz : (bits .andNot .i64 (fbits of_ holder kind secs.length text : Nat) 14 == 0) = false := by simpa using hz
   have tz' : (bits .andNot .i64 (fbits of_ holder kind secs.length text : Nat) 14 != 0) = true := by simpa using hz
   clear hbits hz; go_wp2; go_ret; exact ⟨RetB.f (fun q => HL.out (have u := (LineOk.w q rfl); ⟨fun _ => u.2.1, fun h => absurd h (by decide), fun h => absurd rfl h, fun _ => u.2.2.2.2.2⟩)), bw3⟩
 by_cases o2 : op = 2
 ·
  subst o2; clear o1; rw [show hapV 2 of_ holder kind ad secs.length ca text = .iface 139 (.agg #[.int .i64 of_]) from rfl]; have m1 := Tryz.m_giving_namedFields (.int .i64 of_); have n1 := Tryz.n_giving_namedFields (.int .i64 of_)
  go_wp2_with fail
  refine (filledFields_any 2 of_ holder kind ad secs.length ca text _).mono ?_; rintro e w2 ⟨rfl, hb2⟩; have bw2 := below_trans bw bw.size hb2; have HB2 : Hid (Cells w2 ad secs.length (iV secs) ∧ w2.heap[w.heap.size]? = some (.cells #[.int .i64 2, .int .i64 of_, .string holder, .int .i64 kind, .slice ad secs.length ca, .string text] 32 (0, 0))) := ⟨HB.out.1.below hb2, (hb2.block _ zw).trans HB.out.2⟩; have zw2 : w.heap.size < w2.heap.size := Nat.lt_of_lt_of_le zw hb2.size; clear hb2 bw HB zw e0 e1 e2 e3 e4 e5
  go_wp2_with fail
  refine (named_ofOrder _ _).mono ?_; rintro e w3 ⟨rfl, hb3⟩; have bw3 := below_trans bw2 bw2.size hb3; have HB3 : Hid (Cells w3 ad secs.length (iV secs) ∧ w3.heap[w.heap.size]? = some (.cells #[.int .i64 2, .int .i64 of_, .string holder, .int .i64 kind, .slice ad secs.length ca, .string text] 32 (0, 0))) := ⟨HB2.out.1.below hb3, (hb3.block _ zw2).trans HB2.out.2⟩; have zw3 : w.heap.size < w3.heap.size := Nat.lt_of_lt_of_le zw2 hb3.size; clear hb3 bw2 HB2 zw2; have hbits := fbit_cases 1 of_ holder kind secs.length text (by decide)
  by_cases hz : bits .andNot .i64 (fbits of_ holder kind secs.length text : Nat) 1 = 0
  ·
   have HL : Hid (LeftOk 1 of_ holder kind secs.length text) := hbits.1 hz; have tz : (bits .andNot .i64 (fbits of_ holder kind secs.length text : Nat) 1 == 0) = true := by simpa using hz
   have tz' : (bits .andNot .i64 (fbits of_ holder kind secs.length text : Nat) 1 != 0) = false := by simpa using hz
   clear hbits hz
   go_wp2_with fail
   refine (named_ofOrder _ _).mono ?_; rintro e w4 ⟨rfl, hb4⟩; have bw4 := below_trans bw3 bw3.size hb4; have HB4 : Hid (Cells w4 ad secs.length (iV secs)) := HB3.out.1.below hb4; obtain ⟨e0, e1, e2, e3, e4, e5⟩ := ev_cells ((hb4.block _ zw3).trans HB3.out.2); clear hb4 bw3 HB3 zw3; have tb : bits .and .i64 1 2 = 0 := by decide
   by_cases h0 : 0 ≤ of_
   ·
    have t0 : decide (0 ≤ of_) = true := by simpa using h0
    by_cases h2 : of_ < 200
    ·
     have t2 : decide (of_ < 200) = true := by simpa using h2
     by_cases ht : text.size ≤ 200
     ·
      have tt : decide ((text.size : Int) ≤ 200) = true := decide_eq_true (by omega); have H2 : Hid (In of_ 0 199 ∧ text.size ≤ 200) := ⟨⟨h0, by omega⟩, ht⟩; clear h0 h2 ht
      go_wp2_with fail
      refine (contains_any text _).mono ?_; rintro e w' ⟨hr, hw'⟩; obtain rfl := hw'.symm; rcases hr.cases with ⟨rfl, hp⟩ | ⟨rfl, hp⟩
      ·
       have H3 : Hid (¬ NoNl text) := hp; clear hp hr; go_wp2; go_ret; exact ⟨RetB.f (fun q => H3.out (LineOk.n q (show ¬ (2 : Int) = 1 by decide)).2.2.2.2.2.2.2.2), bw4⟩
      ·
       have H3 : Hid (NoNl text) := Classical.not_not.1 hp; clear hp hr; go_wp2; go_ret; exact ⟨RetB.t (Or.inr ⟨(show In (2 : Int) 2 9 from ⟨by decide, by decide⟩), H2.out.1, (HL.out.2.2.1 (by decide)).1, (HL.out.2.2.1 (by decide)).2, fun h => absurd h (show ¬ ((2 : Int) = 3 ∨ (2 : Int) = 4) by decide), fun _ => HL.out.2.1 rfl, fun _ => HL.out.2.2.2 (by decide), H2.out.2, H3.out⟩), bw4⟩
     ·
      have tt : decide ((text.size : Int) ≤ 200) = false := decide_eq_false (by omega); have H2 : Hid (¬ text.size ≤ 200) := ht; clear h0 h2 ht; go_wp2; go_ret; exact ⟨RetB.f (fun q => H2.out (LineOk.n q (show ¬ (2 : Int) = 1 by decide)).2.2.2.2.2.2.2.1), bw4⟩
    ·
     have t2 : decide (of_ < 200) = false := by simpa using h2
     have H2 : Hid (¬ of_ < 200) := h2; clear h0 h2; go_wp2; go_ret; exact ⟨RetB.f (fun q => by have h2 := H2.out; have h3 : of_ ≤ 199 := (LineOk.n q (show ¬ (2 : Int) = 1 by decide)).2.1.2; omega), bw4⟩
   ·
    have t0 : decide (0 ≤ of_) = false := by simpa using h0
    have H2 : Hid (¬ 0 ≤ of_) := h0; clear h0; go_wp2; go_ret; exact ⟨RetB.f (fun q => by have h2 := H2.out; have h3 : 0 ≤ of_ := (LineOk.n q (show ¬ (2 : Int) = 1 by decide)).2.1.1; omega), bw4⟩
  ·
   have HL : Hid (¬ LeftOk 1 of_ holder kind secs.length text) := fun h => hz (hbits.2 h); have tz : (bits .andNot .i64 (fbits of_ holder kind secs.length text : Nat) 1 == 0) = false := by simpa using hz
   have tz' : (bits .andNot .i64 (fbits of_ holder kind secs.length text : Nat) 1 != 0) = true := by simpa using hz
   clear hbits hz; go_wp2; go_ret; exact ⟨RetB.f (fun q => HL.out (have u := (LineOk.n q (show ¬ (2 : Int) = 1 by decide)); ⟨fun h => absurd h (by decide), fun _ => u.2.2.2.2.2.1 (show ¬ ((2 : Int) = 3 ∨ (2 : Int) = 4) by decide), fun _ => ⟨u.2.2.1, u.2.2.2.1⟩, fun _ => u.2.2.2.2.2.2.1 (show ¬ (2 : Int) = 3 by decide)⟩)), bw3⟩
 by_cases o3 : op = 3
 ·
  subst o3; clear o1 o2; rw [show hapV 3 of_ holder kind ad secs.length ca text = .iface 142 (.agg #[.int .i64 of_, .string holder, .string text]) from rfl]; have m1 := Tryz.m_repeating_namedFields (.int .i64 of_) (.string holder) (.string text); have n1 := Tryz.n_repeating_namedFields (.int .i64 of_) (.string holder) (.string text)
  go_wp2_with fail
  refine (filledFields_any 3 of_ holder kind ad secs.length ca text _).mono ?_; rintro e w2 ⟨rfl, hb2⟩; have bw2 := below_trans bw bw.size hb2; have HB2 : Hid (Cells w2 ad secs.length (iV secs) ∧ w2.heap[w.heap.size]? = some (.cells #[.int .i64 3, .int .i64 of_, .string holder, .int .i64 kind, .slice ad secs.length ca, .string text] 32 (0, 0))) := ⟨HB.out.1.below hb2, (hb2.block _ zw).trans HB.out.2⟩; have zw2 : w.heap.size < w2.heap.size := Nat.lt_of_lt_of_le zw hb2.size; clear hb2 bw HB zw e0 e1 e2 e3 e4 e5
  go_wp2_with fail
  refine (named_repeating _ _ _ _).mono ?_; rintro e w3 ⟨rfl, hb3⟩; have bw3 := below_trans bw2 bw2.size hb3; have HB3 : Hid (Cells w3 ad secs.length (iV secs) ∧ w3.heap[w.heap.size]? = some (.cells #[.int .i64 3, .int .i64 of_, .string holder, .int .i64 kind, .slice ad secs.length ca, .string text] 32 (0, 0))) := ⟨HB2.out.1.below hb3, (hb3.block _ zw2).trans HB2.out.2⟩; have zw3 : w.heap.size < w3.heap.size := Nat.lt_of_lt_of_le zw2 hb3.size; clear hb3 bw2 HB2 zw2; have hbits := fbit_cases 19 of_ holder kind secs.length text (by decide)
  by_cases hz : bits .andNot .i64 (fbits of_ holder kind secs.length text : Nat) 19 = 0
  ·
   have HL : Hid (LeftOk 19 of_ holder kind secs.length text) := hbits.1 hz; have tz : (bits .andNot .i64 (fbits of_ holder kind secs.length text : Nat) 19 == 0) = true := by simpa using hz
   have tz' : (bits .andNot .i64 (fbits of_ holder kind secs.length text : Nat) 19 != 0) = false := by simpa using hz
   clear hbits hz
   go_wp2_with fail
   refine (named_repeating _ _ _ _).mono ?_; rintro e w4 ⟨rfl, hb4⟩; have bw4 := below_trans bw3 bw3.size hb4; have HB4 : Hid (Cells w4 ad secs.length (iV secs)) := HB3.out.1.below hb4; obtain ⟨e0, e1, e2, e3, e4, e5⟩ := ev_cells ((hb4.block _ zw3).trans HB3.out.2); clear hb4 bw3 HB3 zw3; have tb : bits .and .i64 19 2 = 2 := by decide
   go_wp2_with fail
   refine (nameOk_any holder _ (by omega)).mono ?_; rintro e w' ⟨hr, hw'⟩; obtain rfl := hw'.symm; rcases hr.cases with ⟨rfl, hp⟩ | ⟨rfl, hp⟩
   ·
    have H1 : Hid (NameOk holder) := hp; clear hp hr
    by_cases h0 : 0 ≤ of_
    ·
     have t0 : decide (0 ≤ of_) = true := by simpa using h0
     by_cases h2 : of_ < 200
     ·
      have t2 : decide (of_ < 200) = true := by simpa using h2
      by_cases ht : text.size ≤ 200
      ·
       have tt : decide ((text.size : Int) ≤ 200) = true := decide_eq_true (by omega); have H2 : Hid (In of_ 0 199 ∧ text.size ≤ 200) := ⟨⟨h0, by omega⟩, ht⟩; clear h0 h2 ht
       go_wp2_with fail
       refine (contains_any text _).mono ?_; rintro e w' ⟨hr, hw'⟩; obtain rfl := hw'.symm; rcases hr.cases with ⟨rfl, hp⟩ | ⟨rfl, hp⟩
       ·
        have H3 : Hid (¬ NoNl text) := hp; clear hp hr; go_wp2; go_ret; exact ⟨RetB.f (fun q => H3.out (LineOk.n q (show ¬ (3 : Int) = 1 by decide)).2.2.2.2.2.2.2.2), bw4⟩
       ·
        have H3 : Hid (NoNl text) := Classical.not_not.1 hp; clear hp hr; go_wp2; go_ret; exact ⟨RetB.t (Or.inr ⟨(show In (3 : Int) 2 9 from ⟨by decide, by decide⟩), H2.out.1, (HL.out.2.2.1 (by decide)).1, (HL.out.2.2.1 (by decide)).2, fun _ => H1.out, fun h => absurd (Or.inl rfl) h, fun h => absurd rfl h, H2.out.2, H3.out⟩), bw4⟩
      ·
       have tt : decide ((text.size : Int) ≤ 200) = false := decide_eq_false (by omega); have H2 : Hid (¬ text.size ≤ 200) := ht; clear h0 h2 ht; go_wp2; go_ret; exact ⟨RetB.f (fun q => H2.out (LineOk.n q (show ¬ (3 : Int) = 1 by decide)).2.2.2.2.2.2.2.1), bw4⟩
     ·
      have t2 : decide (of_ < 200) = false := by simpa using h2
      have H2 : Hid (¬ of_ < 200) := h2; clear h0 h2; go_wp2; go_ret; exact ⟨RetB.f (fun q => by have h2 := H2.out; have h3 : of_ ≤ 199 := (LineOk.n q (show ¬ (3 : Int) = 1 by decide)).2.1.2; omega), bw4⟩
    ·
     have t0 : decide (0 ≤ of_) = false := by simpa using h0
     have H2 : Hid (¬ 0 ≤ of_) := h0; clear h0; go_wp2; go_ret; exact ⟨RetB.f (fun q => by have h2 := H2.out; have h3 : 0 ≤ of_ := (LineOk.n q (show ¬ (3 : Int) = 1 by decide)).2.1.1; omega), bw4⟩
   ·
    have H1 : Hid (¬ NameOk holder) := hp; clear hp hr; go_wp2; go_ret; exact ⟨RetB.f (fun q => H1.out ((LineOk.n q (show ¬ (3 : Int) = 1 by decide)).2.2.2.2.1 (Or.inl rfl))), bw4⟩
  ·
   have HL : Hid (¬ LeftOk 19 of_ holder kind secs.length text) := fun h => hz (hbits.2 h); have tz : (bits .andNot .i64 (fbits of_ holder kind secs.length text : Nat) 19 == 0) = false := by simpa using hz
   have tz' : (bits .andNot .i64 (fbits of_ holder kind secs.length text : Nat) 19 != 0) = true := by simpa using hz
   clear hbits hz; go_wp2; go_ret; exact ⟨RetB.f (fun q => HL.out (have u := (LineOk.n q (show ¬ (3 : Int) = 1 by decide)); ⟨fun h => absurd h (by decide), fun h => absurd h (by decide), fun _ => ⟨u.2.2.1, u.2.2.2.1⟩, fun h => absurd rfl h⟩)), bw3⟩
 by_cases o4 : op = 4
 ·
  subst o4; clear o1 o2 o3; rw [show hapV 4 of_ holder kind ad secs.length ca text = .iface 145 (.agg #[.int .i64 of_, .string holder]) from rfl]; have m1 := Tryz.m_givingBack_namedFields (.int .i64 of_) (.string holder); have n1 := Tryz.n_givingBack_namedFields (.int .i64 of_) (.string holder)
  go_wp2_with fail
  refine (filledFields_any 4 of_ holder kind ad secs.length ca text _).mono ?_; rintro e w2 ⟨rfl, hb2⟩; have bw2 := below_trans bw bw.size hb2; have HB2 : Hid (Cells w2 ad secs.length (iV secs) ∧ w2.heap[w.heap.size]? = some (.cells #[.int .i64 4, .int .i64 of_, .string holder, .int .i64 kind, .slice ad secs.length ca, .string text] 32 (0, 0))) := ⟨HB.out.1.below hb2, (hb2.block _ zw).trans HB.out.2⟩; have zw2 : w.heap.size < w2.heap.size := Nat.lt_of_lt_of_le zw hb2.size; clear hb2 bw HB zw e0 e1 e2 e3 e4 e5
  go_wp2_with fail
  refine (named_givingBack _ _ _).mono ?_; rintro e w3 ⟨rfl, hb3⟩; have bw3 := below_trans bw2 bw2.size hb3; have HB3 : Hid (Cells w3 ad secs.length (iV secs) ∧ w3.heap[w.heap.size]? = some (.cells #[.int .i64 4, .int .i64 of_, .string holder, .int .i64 kind, .slice ad secs.length ca, .string text] 32 (0, 0))) := ⟨HB2.out.1.below hb3, (hb3.block _ zw2).trans HB2.out.2⟩; have zw3 : w.heap.size < w3.heap.size := Nat.lt_of_lt_of_le zw2 hb3.size; clear hb3 bw2 HB2 zw2; have hbits := fbit_cases 3 of_ holder kind secs.length text (by decide)
  by_cases hz : bits .andNot .i64 (fbits of_ holder kind secs.length text : Nat) 3 = 0
  ·
   have HL : Hid (LeftOk 3 of_ holder kind secs.length text) := hbits.1 hz; have tz : (bits .andNot .i64 (fbits of_ holder kind secs.length text : Nat) 3 == 0) = true := by simpa using hz
   have tz' : (bits .andNot .i64 (fbits of_ holder kind secs.length text : Nat) 3 != 0) = false := by simpa using hz
   clear hbits hz
   go_wp2_with fail
   refine (named_givingBack _ _ _).mono ?_; rintro e w4 ⟨rfl, hb4⟩; have bw4 := below_trans bw3 bw3.size hb4; have HB4 : Hid (Cells w4 ad secs.length (iV secs)) := HB3.out.1.below hb4; obtain ⟨e0, e1, e2, e3, e4, e5⟩ := ev_cells ((hb4.block _ zw3).trans HB3.out.2); clear hb4 bw3 HB3 zw3; have tb : bits .and .i64 3 2 = 2 := by decide
   go_wp2_with fail
   refine (nameOk_any holder _ (by omega)).mono ?_; rintro e w' ⟨hr, hw'⟩; obtain rfl := hw'.symm; rcases hr.cases with ⟨rfl, hp⟩ | ⟨rfl, hp⟩
   ·
    have H1 : Hid (NameOk holder) := hp; clear hp hr
    by_cases h0 : 0 ≤ of_
    ·
     have t0 : decide (0 ≤ of_) = true := by simpa using h0
     by_cases h2 : of_ < 200
     ·
      have t2 : decide (of_ < 200) = true := by simpa using h2
      by_cases ht : text.size ≤ 200
      ·
       have tt : decide ((text.size : Int) ≤ 200) = true := decide_eq_true (by omega); have H2 : Hid (In of_ 0 199 ∧ text.size ≤ 200) := ⟨⟨h0, by omega⟩, ht⟩; clear h0 h2 ht
       go_wp2_with fail
       refine (contains_any text _).mono ?_; rintro e w' ⟨hr, hw'⟩; obtain rfl := hw'.symm; rcases hr.cases with ⟨rfl, hp⟩ | ⟨rfl, hp⟩
       ·
        have H3 : Hid (¬ NoNl text) := hp; clear hp hr; go_wp2; go_ret; exact ⟨RetB.f (fun q => H3.out (LineOk.n q (show ¬ (4 : Int) = 1 by decide)).2.2.2.2.2.2.2.2), bw4⟩
       ·
        have H3 : Hid (NoNl text) := Classical.not_not.1 hp; clear hp hr; go_wp2; go_ret; exact ⟨RetB.t (Or.inr ⟨(show In (4 : Int) 2 9 from ⟨by decide, by decide⟩), H2.out.1, (HL.out.2.2.1 (by decide)).1, (HL.out.2.2.1 (by decide)).2, fun _ => H1.out, fun h => absurd (Or.inr rfl) h, fun _ => HL.out.2.2.2 (by decide), H2.out.2, H3.out⟩), bw4⟩
      ·
       have tt : decide ((text.size : Int) ≤ 200) = false := decide_eq_false (by omega); have H2 : Hid (¬ text.size ≤ 200) := ht; clear h0 h2 ht; go_wp2; go_ret; exact ⟨RetB.f (fun q => H2.out (LineOk.n q (show ¬ (4 : Int) = 1 by decide)).2.2.2.2.2.2.2.1), bw4⟩
     ·
      have t2 : decide (of_ < 200) = false := by simpa using h2
      have H2 : Hid (¬ of_ < 200) := h2; clear h0 h2; go_wp2; go_ret; exact ⟨RetB.f (fun q => by have h2 := H2.out; have h3 : of_ ≤ 199 := (LineOk.n q (show ¬ (4 : Int) = 1 by decide)).2.1.2; omega), bw4⟩
    ·
     have t0 : decide (0 ≤ of_) = false := by simpa using h0
     have H2 : Hid (¬ 0 ≤ of_) := h0; clear h0; go_wp2; go_ret; exact ⟨RetB.f (fun q => by have h2 := H2.out; have h3 : 0 ≤ of_ := (LineOk.n q (show ¬ (4 : Int) = 1 by decide)).2.1.1; omega), bw4⟩
   ·
    have H1 : Hid (¬ NameOk holder) := hp; clear hp hr; go_wp2; go_ret; exact ⟨RetB.f (fun q => H1.out ((LineOk.n q (show ¬ (4 : Int) = 1 by decide)).2.2.2.2.1 (Or.inr rfl))), bw4⟩
  ·
   have HL : Hid (¬ LeftOk 3 of_ holder kind secs.length text) := fun h => hz (hbits.2 h); have tz : (bits .andNot .i64 (fbits of_ holder kind secs.length text : Nat) 3 == 0) = false := by simpa using hz
   have tz' : (bits .andNot .i64 (fbits of_ holder kind secs.length text : Nat) 3 != 0) = true := by simpa using hz
   clear hbits hz; go_wp2; go_ret; exact ⟨RetB.f (fun q => HL.out (have u := (LineOk.n q (show ¬ (4 : Int) = 1 by decide)); ⟨fun h => absurd h (by decide), fun h => absurd h (by decide), fun _ => ⟨u.2.2.1, u.2.2.2.1⟩, fun _ => u.2.2.2.2.2.2.1 (show ¬ (4 : Int) = 3 by decide)⟩)), bw3⟩
 by_cases o5 : op = 5
 ·
  subst o5; clear o1 o2 o3 o4; rw [show hapV 5 of_ holder kind ad secs.length ca text = .iface 147 (.agg #[.int .i64 of_]) from rfl]; have m1 := Tryz.m_cancelling_namedFields (.int .i64 of_); have n1 := Tryz.n_cancelling_namedFields (.int .i64 of_)
  go_wp2_with fail
  refine (filledFields_any 5 of_ holder kind ad secs.length ca text _).mono ?_; rintro e w2 ⟨rfl, hb2⟩; have bw2 := below_trans bw bw.size hb2; have HB2 : Hid (Cells w2 ad secs.length (iV secs) ∧ w2.heap[w.heap.size]? = some (.cells #[.int .i64 5, .int .i64 of_, .string holder, .int .i64 kind, .slice ad secs.length ca, .string text] 32 (0, 0))) := ⟨HB.out.1.below hb2, (hb2.block _ zw).trans HB.out.2⟩; have zw2 : w.heap.size < w2.heap.size := Nat.lt_of_lt_of_le zw hb2.size; clear hb2 bw HB zw e0 e1 e2 e3 e4 e5
  go_wp2_with fail
  refine (named_ofOrder _ _).mono ?_; rintro e w3 ⟨rfl, hb3⟩; have bw3 := below_trans bw2 bw2.size hb3; have HB3 : Hid (Cells w3 ad secs.length (iV secs) ∧ w3.heap[w.heap.size]? = some (.cells #[.int .i64 5, .int .i64 of_, .string holder, .int .i64 kind, .slice ad secs.length ca, .string text] 32 (0, 0))) := ⟨HB2.out.1.below hb3, (hb3.block _ zw2).trans HB2.out.2⟩; have zw3 : w.heap.size < w3.heap.size := Nat.lt_of_lt_of_le zw2 hb3.size; clear hb3 bw2 HB2 zw2; have hbits := fbit_cases 1 of_ holder kind secs.length text (by decide)
  by_cases hz : bits .andNot .i64 (fbits of_ holder kind secs.length text : Nat) 1 = 0
  ·
   have HL : Hid (LeftOk 1 of_ holder kind secs.length text) := hbits.1 hz; have tz : (bits .andNot .i64 (fbits of_ holder kind secs.length text : Nat) 1 == 0) = true := by simpa using hz
   have tz' : (bits .andNot .i64 (fbits of_ holder kind secs.length text : Nat) 1 != 0) = false := by simpa using hz
   clear hbits hz
   go_wp2_with fail
   refine (named_ofOrder _ _).mono ?_; rintro e w4 ⟨rfl, hb4⟩; have bw4 := below_trans bw3 bw3.size hb4; have HB4 : Hid (Cells w4 ad secs.length (iV secs)) := HB3.out.1.below hb4; obtain ⟨e0, e1, e2, e3, e4, e5⟩ := ev_cells ((hb4.block _ zw3).trans HB3.out.2); clear hb4 bw3 HB3 zw3; have tb : bits .and .i64 1 2 = 0 := by decide
   by_cases h0 : 0 ≤ of_
   ·
    have t0 : decide (0 ≤ of_) = true := by simpa using h0
    by_cases h2 : of_ < 200
    ·
     have t2 : decide (of_ < 200) = true := by simpa using h2
     by_cases ht : text.size ≤ 200
     ·
      have tt : decide ((text.size : Int) ≤ 200) = true := decide_eq_true (by omega); have H2 : Hid (In of_ 0 199 ∧ text.size ≤ 200) := ⟨⟨h0, by omega⟩, ht⟩; clear h0 h2 ht
      go_wp2_with fail
      refine (contains_any text _).mono ?_; rintro e w' ⟨hr, hw'⟩; obtain rfl := hw'.symm; rcases hr.cases with ⟨rfl, hp⟩ | ⟨rfl, hp⟩
      ·
       have H3 : Hid (¬ NoNl text) := hp; clear hp hr; go_wp2; go_ret; exact ⟨RetB.f (fun q => H3.out (LineOk.n q (show ¬ (5 : Int) = 1 by decide)).2.2.2.2.2.2.2.2), bw4⟩
      ·
       have H3 : Hid (NoNl text) := Classical.not_not.1 hp; clear hp hr; go_wp2; go_ret; exact ⟨RetB.t (Or.inr ⟨(show In (5 : Int) 2 9 from ⟨by decide, by decide⟩), H2.out.1, (HL.out.2.2.1 (by decide)).1, (HL.out.2.2.1 (by decide)).2, fun h => absurd h (show ¬ ((5 : Int) = 3 ∨ (5 : Int) = 4) by decide), fun _ => HL.out.2.1 rfl, fun _ => HL.out.2.2.2 (by decide), H2.out.2, H3.out⟩), bw4⟩
     ·
      have tt : decide ((text.size : Int) ≤ 200) = false := decide_eq_false (by omega); have H2 : Hid (¬ text.size ≤ 200) := ht; clear h0 h2 ht; go_wp2; go_ret; exact ⟨RetB.f (fun q => H2.out (LineOk.n q (show ¬ (5 : Int) = 1 by decide)).2.2.2.2.2.2.2.1), bw4⟩
    ·
     have t2 : decide (of_ < 200) = false := by simpa using h2
     have H2 : Hid (¬ of_ < 200) := h2; clear h0 h2; go_wp2; go_ret; exact ⟨RetB.f (fun q => by have h2 := H2.out; have h3 : of_ ≤ 199 := (LineOk.n q (show ¬ (5 : Int) = 1 by decide)).2.1.2; omega), bw4⟩
   ·
    have t0 : decide (0 ≤ of_) = false := by simpa using h0
    have H2 : Hid (¬ 0 ≤ of_) := h0; clear h0; go_wp2; go_ret; exact ⟨RetB.f (fun q => by have h2 := H2.out; have h3 : 0 ≤ of_ := (LineOk.n q (show ¬ (5 : Int) = 1 by decide)).2.1.1; omega), bw4⟩
  ·
   have HL : Hid (¬ LeftOk 1 of_ holder kind secs.length text) := fun h => hz (hbits.2 h); have tz : (bits .andNot .i64 (fbits of_ holder kind secs.length text : Nat) 1 == 0) = false := by simpa using hz
   have tz' : (bits .andNot .i64 (fbits of_ holder kind secs.length text : Nat) 1 != 0) = true := by simpa using hz
   clear hbits hz; go_wp2; go_ret; exact ⟨RetB.f (fun q => HL.out (have u := (LineOk.n q (show ¬ (5 : Int) = 1 by decide)); ⟨fun h => absurd h (by decide), fun _ => u.2.2.2.2.2.1 (show ¬ ((5 : Int) = 3 ∨ (5 : Int) = 4) by decide), fun _ => ⟨u.2.2.1, u.2.2.2.1⟩, fun _ => u.2.2.2.2.2.2.1 (show ¬ (5 : Int) = 3 by decide)⟩)), bw3⟩
 by_cases o6 : op = 6
 ·
  subst o6; clear o1 o2 o3 o4 o5; rw [show hapV 6 of_ holder kind ad secs.length ca text = .iface 152 (.agg #[.int .i64 of_]) from rfl]; have m1 := Tryz.m_locking_namedFields (.int .i64 of_); have n1 := Tryz.n_locking_namedFields (.int .i64 of_)
  go_wp2_with fail
  refine (filledFields_any 6 of_ holder kind ad secs.length ca text _).mono ?_; rintro e w2 ⟨rfl, hb2⟩; have bw2 := below_trans bw bw.size hb2; have HB2 : Hid (Cells w2 ad secs.length (iV secs) ∧ w2.heap[w.heap.size]? = some (.cells #[.int .i64 6, .int .i64 of_, .string holder, .int .i64 kind, .slice ad secs.length ca, .string text] 32 (0, 0))) := ⟨HB.out.1.below hb2, (hb2.block _ zw).trans HB.out.2⟩; have zw2 : w.heap.size < w2.heap.size := Nat.lt_of_lt_of_le zw hb2.size; clear hb2 bw HB zw e0 e1 e2 e3 e4 e5
  go_wp2_with fail
  refine (named_ofSection _ _).mono ?_; rintro e w3 ⟨rfl, hb3⟩; have bw3 := below_trans bw2 bw2.size hb3; have HB3 : Hid (Cells w3 ad secs.length (iV secs) ∧ w3.heap[w.heap.size]? = some (.cells #[.int .i64 6, .int .i64 of_, .string holder, .int .i64 kind, .slice ad secs.length ca, .string text] 32 (0, 0))) := ⟨HB2.out.1.below hb3, (hb3.block _ zw2).trans HB2.out.2⟩; have zw3 : w.heap.size < w3.heap.size := Nat.lt_of_lt_of_le zw2 hb3.size; clear hb3 bw2 HB2 zw2; have hbits := fbit_cases 1 of_ holder kind secs.length text (by decide)
  by_cases hz : bits .andNot .i64 (fbits of_ holder kind secs.length text : Nat) 1 = 0
  ·
   have HL : Hid (LeftOk 1 of_ holder kind secs.length text) := hbits.1 hz; have tz : (bits .andNot .i64 (fbits of_ holder kind secs.length text : Nat) 1 == 0) = true := by simpa using hz
   have tz' : (bits .andNot .i64 (fbits of_ holder kind secs.length text : Nat) 1 != 0) = false := by simpa using hz
   clear hbits hz
   go_wp2_with fail
   refine (named_ofSection _ _).mono ?_; rintro e w4 ⟨rfl, hb4⟩; have bw4 := below_trans bw3 bw3.size hb4; have HB4 : Hid (Cells w4 ad secs.length (iV secs)) := HB3.out.1.below hb4; obtain ⟨e0, e1, e2, e3, e4, e5⟩ := ev_cells ((hb4.block _ zw3).trans HB3.out.2); clear hb4 bw3 HB3 zw3; have tb : bits .and .i64 1 2 = 0 := by decide
   by_cases h0 : 0 ≤ of_
   ·
    have t0 : decide (0 ≤ of_) = true := by simpa using h0
    by_cases h2 : of_ < 200
    ·
     have t2 : decide (of_ < 200) = true := by simpa using h2
     by_cases ht : text.size ≤ 200
     ·
      have tt : decide ((text.size : Int) ≤ 200) = true := decide_eq_true (by omega); have H2 : Hid (In of_ 0 199 ∧ text.size ≤ 200) := ⟨⟨h0, by omega⟩, ht⟩; clear h0 h2 ht
      go_wp2_with fail
      refine (contains_any text _).mono ?_; rintro e w' ⟨hr, hw'⟩; obtain rfl := hw'.symm; rcases hr.cases with ⟨rfl, hp⟩ | ⟨rfl, hp⟩
      ·
       have H3 : Hid (¬ NoNl text) := hp; clear hp hr; go_wp2; go_ret; exact ⟨RetB.f (fun q => H3.out (LineOk.n q (show ¬ (6 : Int) = 1 by decide)).2.2.2.2.2.2.2.2), bw4⟩
      ·
       have H3 : Hid (NoNl text) := Classical.not_not.1 hp; clear hp hr; go_wp2; go_ret; exact ⟨RetB.t (Or.inr ⟨(show In (6 : Int) 2 9 from ⟨by decide, by decide⟩), H2.out.1, (HL.out.2.2.1 (by decide)).1, (HL.out.2.2.1 (by decide)).2, fun h => absurd h (show ¬ ((6 : Int) = 3 ∨ (6 : Int) = 4) by decide), fun _ => HL.out.2.1 rfl, fun _ => HL.out.2.2.2 (by decide), H2.out.2, H3.out⟩), bw4⟩
     ·
      have tt : decide ((text.size : Int) ≤ 200) = false := decide_eq_false (by omega); have H2 : Hid (¬ text.size ≤ 200) := ht; clear h0 h2 ht; go_wp2; go_ret; exact ⟨RetB.f (fun q => H2.out (LineOk.n q (show ¬ (6 : Int) = 1 by decide)).2.2.2.2.2.2.2.1), bw4⟩
    ·
     have t2 : decide (of_ < 200) = false := by simpa using h2
     have H2 : Hid (¬ of_ < 200) := h2; clear h0 h2; go_wp2; go_ret; exact ⟨RetB.f (fun q => by have h2 := H2.out; have h3 : of_ ≤ 199 := (LineOk.n q (show ¬ (6 : Int) = 1 by decide)).2.1.2; omega), bw4⟩
   ·
    have t0 : decide (0 ≤ of_) = false := by simpa using h0
    have H2 : Hid (¬ 0 ≤ of_) := h0; clear h0; go_wp2; go_ret; exact ⟨RetB.f (fun q => by have h2 := H2.out; have h3 : 0 ≤ of_ := (LineOk.n q (show ¬ (6 : Int) = 1 by decide)).2.1.1; omega), bw4⟩
  ·
   have HL : Hid (¬ LeftOk 1 of_ holder kind secs.length text) := fun h => hz (hbits.2 h); have tz : (bits .andNot .i64 (fbits of_ holder kind secs.length text : Nat) 1 == 0) = false := by simpa using hz
   have tz' : (bits .andNot .i64 (fbits of_ holder kind secs.length text : Nat) 1 != 0) = true := by simpa using hz
   clear hbits hz; go_wp2; go_ret; exact ⟨RetB.f (fun q => HL.out (have u := (LineOk.n q (show ¬ (6 : Int) = 1 by decide)); ⟨fun h => absurd h (by decide), fun _ => u.2.2.2.2.2.1 (show ¬ ((6 : Int) = 3 ∨ (6 : Int) = 4) by decide), fun _ => ⟨u.2.2.1, u.2.2.2.1⟩, fun _ => u.2.2.2.2.2.2.1 (show ¬ (6 : Int) = 3 by decide)⟩)), bw3⟩
 by_cases o7 : op = 7
 ·
  subst o7; clear o1 o2 o3 o4 o5 o6; rw [show hapV 7 of_ holder kind ad secs.length ca text = .iface 153 (.agg #[.int .i64 of_]) from rfl]; have m1 := Tryz.m_unlocking_namedFields (.int .i64 of_); have n1 := Tryz.n_unlocking_namedFields (.int .i64 of_)
  go_wp2_with fail
  refine (filledFields_any 7 of_ holder kind ad secs.length ca text _).mono ?_; rintro e w2 ⟨rfl, hb2⟩; have bw2 := below_trans bw bw.size hb2; have HB2 : Hid (Cells w2 ad secs.length (iV secs) ∧ w2.heap[w.heap.size]? = some (.cells #[.int .i64 7, .int .i64 of_, .string holder, .int .i64 kind, .slice ad secs.length ca, .string text] 32 (0, 0))) := ⟨HB.out.1.below hb2, (hb2.block _ zw).trans HB.out.2⟩; have zw2 : w.heap.size < w2.heap.size := Nat.lt_of_lt_of_le zw hb2.size; clear hb2 bw HB zw e0 e1 e2 e3 e4 e5
  go_wp2_with fail
  refine (named_ofSection _ _).mono ?_; rintro e w3 ⟨rfl, hb3⟩; have bw3 := below_trans bw2 bw2.size hb3; have HB3 : Hid (Cells w3 ad secs.length (iV secs) ∧ w3.heap[w.heap.size]? = some (.cells #[.int .i64 7, .int .i64 of_, .string holder, .int .i64 kind, .slice ad secs.length ca, .string text] 32 (0, 0))) := ⟨HB2.out.1.below hb3, (hb3.block _ zw2).trans HB2.out.2⟩; have zw3 : w.heap.size < w3.heap.size := Nat.lt_of_lt_of_le zw2 hb3.size; clear hb3 bw2 HB2 zw2; have hbits := fbit_cases 1 of_ holder kind secs.length text (by decide)
  by_cases hz : bits .andNot .i64 (fbits of_ holder kind secs.length text : Nat) 1 = 0
  ·
   have HL : Hid (LeftOk 1 of_ holder kind secs.length text) := hbits.1 hz; have tz : (bits .andNot .i64 (fbits of_ holder kind secs.length text : Nat) 1 == 0) = true := by simpa using hz
   have tz' : (bits .andNot .i64 (fbits of_ holder kind secs.length text : Nat) 1 != 0) = false := by simpa using hz
   clear hbits hz
   go_wp2_with fail
   refine (named_ofSection _ _).mono ?_; rintro e w4 ⟨rfl, hb4⟩; have bw4 := below_trans bw3 bw3.size hb4; have HB4 : Hid (Cells w4 ad secs.length (iV secs)) := HB3.out.1.below hb4; obtain ⟨e0, e1, e2, e3, e4, e5⟩ := ev_cells ((hb4.block _ zw3).trans HB3.out.2); clear hb4 bw3 HB3 zw3; have tb : bits .and .i64 1 2 = 0 := by decide
   by_cases h0 : 0 ≤ of_
   ·
    have t0 : decide (0 ≤ of_) = true := by simpa using h0
    by_cases h2 : of_ < 200
    ·
     have t2 : decide (of_ < 200) = true := by simpa using h2
     by_cases ht : text.size ≤ 200
     ·
      have tt : decide ((text.size : Int) ≤ 200) = true := decide_eq_true (by omega); have H2 : Hid (In of_ 0 199 ∧ text.size ≤ 200) := ⟨⟨h0, by omega⟩, ht⟩; clear h0 h2 ht
      go_wp2_with fail
      refine (contains_any text _).mono ?_; rintro e w' ⟨hr, hw'⟩; obtain rfl := hw'.symm; rcases hr.cases with ⟨rfl, hp⟩ | ⟨rfl, hp⟩
      ·
       have H3 : Hid (¬ NoNl text) := hp; clear hp hr; go_wp2; go_ret; exact ⟨RetB.f (fun q => H3.out (LineOk.n q (show ¬ (7 : Int) = 1 by decide)).2.2.2.2.2.2.2.2), bw4⟩
      ·
       have H3 : Hid (NoNl text) := Classical.not_not.1 hp; clear hp hr; go_wp2; go_ret; exact ⟨RetB.t (Or.inr ⟨(show In (7 : Int) 2 9 from ⟨by decide, by decide⟩), H2.out.1, (HL.out.2.2.1 (by decide)).1, (HL.out.2.2.1 (by decide)).2, fun h => absurd h (show ¬ ((7 : Int) = 3 ∨ (7 : Int) = 4) by decide), fun _ => HL.out.2.1 rfl, fun _ => HL.out.2.2.2 (by decide), H2.out.2, H3.out⟩), bw4⟩
     ·
      have tt : decide ((text.size : Int) ≤ 200) = false := decide_eq_false (by omega); have H2 : Hid (¬ text.size ≤ 200) := ht; clear h0 h2 ht; go_wp2; go_ret; exact ⟨RetB.f (fun q => H2.out (LineOk.n q (show ¬ (7 : Int) = 1 by decide)).2.2.2.2.2.2.2.1), bw4⟩
    ·
     have t2 : decide (of_ < 200) = false := by simpa using h2
     have H2 : Hid (¬ of_ < 200) := h2; clear h0 h2; go_wp2; go_ret; exact ⟨RetB.f (fun q => by have h2 := H2.out; have h3 : of_ ≤ 199 := (LineOk.n q (show ¬ (7 : Int) = 1 by decide)).2.1.2; omega), bw4⟩
   ·
    have t0 : decide (0 ≤ of_) = false := by simpa using h0
    have H2 : Hid (¬ 0 ≤ of_) := h0; clear h0; go_wp2; go_ret; exact ⟨RetB.f (fun q => by have h2 := H2.out; have h3 : 0 ≤ of_ := (LineOk.n q (show ¬ (7 : Int) = 1 by decide)).2.1.1; omega), bw4⟩
  ·
   have HL : Hid (¬ LeftOk 1 of_ holder kind secs.length text) := fun h => hz (hbits.2 h); have tz : (bits .andNot .i64 (fbits of_ holder kind secs.length text : Nat) 1 == 0) = false := by simpa using hz
   have tz' : (bits .andNot .i64 (fbits of_ holder kind secs.length text : Nat) 1 != 0) = true := by simpa using hz
   clear hbits hz; go_wp2; go_ret; exact ⟨RetB.f (fun q => HL.out (have u := (LineOk.n q (show ¬ (7 : Int) = 1 by decide)); ⟨fun h => absurd h (by decide), fun _ => u.2.2.2.2.2.1 (show ¬ ((7 : Int) = 3 ∨ (7 : Int) = 4) by decide), fun _ => ⟨u.2.2.1, u.2.2.2.1⟩, fun _ => u.2.2.2.2.2.2.1 (show ¬ (7 : Int) = 3 by decide)⟩)), bw3⟩
 by_cases o8 : op = 8
 ·
  subst o8; clear o1 o2 o3 o4 o5 o6 o7; rw [show hapV 8 of_ holder kind ad secs.length ca text = .iface 154 (.agg #[.int .i64 of_]) from rfl]; have m1 := Tryz.m_coming_namedFields (.int .i64 of_); have n1 := Tryz.n_coming_namedFields (.int .i64 of_)
  go_wp2_with fail
  refine (filledFields_any 8 of_ holder kind ad secs.length ca text _).mono ?_; rintro e w2 ⟨rfl, hb2⟩; have bw2 := below_trans bw bw.size hb2; have HB2 : Hid (Cells w2 ad secs.length (iV secs) ∧ w2.heap[w.heap.size]? = some (.cells #[.int .i64 8, .int .i64 of_, .string holder, .int .i64 kind, .slice ad secs.length ca, .string text] 32 (0, 0))) := ⟨HB.out.1.below hb2, (hb2.block _ zw).trans HB.out.2⟩; have zw2 : w.heap.size < w2.heap.size := Nat.lt_of_lt_of_le zw hb2.size; clear hb2 bw HB zw e0 e1 e2 e3 e4 e5
  go_wp2_with fail
  refine (named_ofSection _ _).mono ?_; rintro e w3 ⟨rfl, hb3⟩; have bw3 := below_trans bw2 bw2.size hb3; have HB3 : Hid (Cells w3 ad secs.length (iV secs) ∧ w3.heap[w.heap.size]? = some (.cells #[.int .i64 8, .int .i64 of_, .string holder, .int .i64 kind, .slice ad secs.length ca, .string text] 32 (0, 0))) := ⟨HB2.out.1.below hb3, (hb3.block _ zw2).trans HB2.out.2⟩; have zw3 : w.heap.size < w3.heap.size := Nat.lt_of_lt_of_le zw2 hb3.size; clear hb3 bw2 HB2 zw2; have hbits := fbit_cases 1 of_ holder kind secs.length text (by decide)
  by_cases hz : bits .andNot .i64 (fbits of_ holder kind secs.length text : Nat) 1 = 0
  ·
   have HL : Hid (LeftOk 1 of_ holder kind secs.length text) := hbits.1 hz; have tz : (bits .andNot .i64 (fbits of_ holder kind secs.length text : Nat) 1 == 0) = true := by simpa using hz
   have tz' : (bits .andNot .i64 (fbits of_ holder kind secs.length text : Nat) 1 != 0) = false := by simpa using hz
   clear hbits hz
   go_wp2_with fail
   refine (named_ofSection _ _).mono ?_; rintro e w4 ⟨rfl, hb4⟩; have bw4 := below_trans bw3 bw3.size hb4; have HB4 : Hid (Cells w4 ad secs.length (iV secs)) := HB3.out.1.below hb4; obtain ⟨e0, e1, e2, e3, e4, e5⟩ := ev_cells ((hb4.block _ zw3).trans HB3.out.2); clear hb4 bw3 HB3 zw3; have tb : bits .and .i64 1 2 = 0 := by decide
   by_cases h0 : 0 ≤ of_
   ·
    have t0 : decide (0 ≤ of_) = true := by simpa using h0
    by_cases h2 : of_ < 200
    ·
     have t2 : decide (of_ < 200) = true := by simpa using h2
     by_cases ht : text.size ≤ 200
     ·
      have tt : decide ((text.size : Int) ≤ 200) = true := decide_eq_true (by omega); have H2 : Hid (In of_ 0 199 ∧ text.size ≤ 200) := ⟨⟨h0, by omega⟩, ht⟩; clear h0 h2 ht
      go_wp2_with fail
      refine (contains_any text _).mono ?_; rintro e w' ⟨hr, hw'⟩; obtain rfl := hw'.symm; rcases hr.cases with ⟨rfl, hp⟩ | ⟨rfl, hp⟩
      ·
       have H3 : Hid (¬ NoNl text) := hp; clear hp hr; go_wp2; go_ret; exact ⟨RetB.f (fun q => H3.out (LineOk.n q (show ¬ (8 : Int) = 1 by decide)).2.2.2.2.2.2.2.2), bw4⟩
      ·
       have H3 : Hid (NoNl text) := Classical.not_not.1 hp; clear hp hr; go_wp2; go_ret; exact ⟨RetB.t (Or.inr ⟨(show In (8 : Int) 2 9 from ⟨by decide, by decide⟩), H2.out.1, (HL.out.2.2.1 (by decide)).1, (HL.out.2.2.1 (by decide)).2, fun h => absurd h (show ¬ ((8 : Int) = 3 ∨ (8 : Int) = 4) by decide), fun _ => HL.out.2.1 rfl, fun _ => HL.out.2.2.2 (by decide), H2.out.2, H3.out⟩), bw4⟩
     ·
      have tt : decide ((text.size : Int) ≤ 200) = false := decide_eq_false (by omega); have H2 : Hid (¬ text.size ≤ 200) := ht; clear h0 h2 ht; go_wp2; go_ret; exact ⟨RetB.f (fun q => H2.out (LineOk.n q (show ¬ (8 : Int) = 1 by decide)).2.2.2.2.2.2.2.1), bw4⟩
    ·
     have t2 : decide (of_ < 200) = false := by simpa using h2
     have H2 : Hid (¬ of_ < 200) := h2; clear h0 h2; go_wp2; go_ret; exact ⟨RetB.f (fun q => by have h2 := H2.out; have h3 : of_ ≤ 199 := (LineOk.n q (show ¬ (8 : Int) = 1 by decide)).2.1.2; omega), bw4⟩
   ·
    have t0 : decide (0 ≤ of_) = false := by simpa using h0
    have H2 : Hid (¬ 0 ≤ of_) := h0; clear h0; go_wp2; go_ret; exact ⟨RetB.f (fun q => by have h2 := H2.out; have h3 : 0 ≤ of_ := (LineOk.n q (show ¬ (8 : Int) = 1 by decide)).2.1.1; omega), bw4⟩
  ·
   have HL : Hid (¬ LeftOk 1 of_ holder kind secs.length text) := fun h => hz (hbits.2 h); have tz : (bits .andNot .i64 (fbits of_ holder kind secs.length text : Nat) 1 == 0) = false := by simpa using hz
   have tz' : (bits .andNot .i64 (fbits of_ holder kind secs.length text : Nat) 1 != 0) = true := by simpa using hz
   clear hbits hz; go_wp2; go_ret; exact ⟨RetB.f (fun q => HL.out (have u := (LineOk.n q (show ¬ (8 : Int) = 1 by decide)); ⟨fun h => absurd h (by decide), fun _ => u.2.2.2.2.2.1 (show ¬ ((8 : Int) = 3 ∨ (8 : Int) = 4) by decide), fun _ => ⟨u.2.2.1, u.2.2.2.1⟩, fun _ => u.2.2.2.2.2.2.1 (show ¬ (8 : Int) = 3 by decide)⟩)), bw3⟩
 by_cases o9 : op = 9
 ·
  subst o9; clear o1 o2 o3 o4 o5 o6 o7 o8; rw [show hapV 9 of_ holder kind ad secs.length ca text = .iface 155 (.agg #[.int .i64 of_]) from rfl]; have m1 := Tryz.m_leaving_namedFields (.int .i64 of_); have n1 := Tryz.n_leaving_namedFields (.int .i64 of_)
  go_wp2_with fail
  refine (filledFields_any 9 of_ holder kind ad secs.length ca text _).mono ?_; rintro e w2 ⟨rfl, hb2⟩; have bw2 := below_trans bw bw.size hb2; have HB2 : Hid (Cells w2 ad secs.length (iV secs) ∧ w2.heap[w.heap.size]? = some (.cells #[.int .i64 9, .int .i64 of_, .string holder, .int .i64 kind, .slice ad secs.length ca, .string text] 32 (0, 0))) := ⟨HB.out.1.below hb2, (hb2.block _ zw).trans HB.out.2⟩; have zw2 : w.heap.size < w2.heap.size := Nat.lt_of_lt_of_le zw hb2.size; clear hb2 bw HB zw e0 e1 e2 e3 e4 e5
  go_wp2_with fail
  refine (named_ofSection _ _).mono ?_; rintro e w3 ⟨rfl, hb3⟩; have bw3 := below_trans bw2 bw2.size hb3; have HB3 : Hid (Cells w3 ad secs.length (iV secs) ∧ w3.heap[w.heap.size]? = some (.cells #[.int .i64 9, .int .i64 of_, .string holder, .int .i64 kind, .slice ad secs.length ca, .string text] 32 (0, 0))) := ⟨HB2.out.1.below hb3, (hb3.block _ zw2).trans HB2.out.2⟩; have zw3 : w.heap.size < w3.heap.size := Nat.lt_of_lt_of_le zw2 hb3.size; clear hb3 bw2 HB2 zw2; have hbits := fbit_cases 1 of_ holder kind secs.length text (by decide)
  by_cases hz : bits .andNot .i64 (fbits of_ holder kind secs.length text : Nat) 1 = 0
  ·
   have HL : Hid (LeftOk 1 of_ holder kind secs.length text) := hbits.1 hz; have tz : (bits .andNot .i64 (fbits of_ holder kind secs.length text : Nat) 1 == 0) = true := by simpa using hz
   have tz' : (bits .andNot .i64 (fbits of_ holder kind secs.length text : Nat) 1 != 0) = false := by simpa using hz
   clear hbits hz
   go_wp2_with fail
   refine (named_ofSection _ _).mono ?_; rintro e w4 ⟨rfl, hb4⟩; have bw4 := below_trans bw3 bw3.size hb4; have HB4 : Hid (Cells w4 ad secs.length (iV secs)) := HB3.out.1.below hb4; obtain ⟨e0, e1, e2, e3, e4, e5⟩ := ev_cells ((hb4.block _ zw3).trans HB3.out.2); clear hb4 bw3 HB3 zw3; have tb : bits .and .i64 1 2 = 0 := by decide
   by_cases h0 : 0 ≤ of_
   ·
    have t0 : decide (0 ≤ of_) = true := by simpa using h0
    by_cases h2 : of_ < 200
    ·
     have t2 : decide (of_ < 200) = true := by simpa using h2
     by_cases ht : text.size ≤ 200
     ·
      have tt : decide ((text.size : Int) ≤ 200) = true := decide_eq_true (by omega); have H2 : Hid (In of_ 0 199 ∧ text.size ≤ 200) := ⟨⟨h0, by omega⟩, ht⟩; clear h0 h2 ht
      go_wp2_with fail
      refine (contains_any text _).mono ?_; rintro e w' ⟨hr, hw'⟩; obtain rfl := hw'.symm; rcases hr.cases with ⟨rfl, hp⟩ | ⟨rfl, hp⟩
      ·
       have H3 : Hid (¬ NoNl text) := hp; clear hp hr; go_wp2; go_ret; exact ⟨RetB.f (fun q => H3.out (LineOk.n q (show ¬ (9 : Int) = 1 by decide)).2.2.2.2.2.2.2.2), bw4⟩
      ·
       have H3 : Hid (NoNl text) := Classical.not_not.1 hp; clear hp hr; go_wp2; go_ret; exact ⟨RetB.t (Or.inr ⟨(show In (9 : Int) 2 9 from ⟨by decide, by decide⟩), H2.out.1, (HL.out.2.2.1 (by decide)).1, (HL.out.2.2.1 (by decide)).2, fun h => absurd h (show ¬ ((9 : Int) = 3 ∨ (9 : Int) = 4) by decide), fun _ => HL.out.2.1 rfl, fun _ => HL.out.2.2.2 (by decide), H2.out.2, H3.out⟩), bw4⟩
     ·
      have tt : decide ((text.size : Int) ≤ 200) = false := decide_eq_false (by omega); have H2 : Hid (¬ text.size ≤ 200) := ht; clear h0 h2 ht; go_wp2; go_ret; exact ⟨RetB.f (fun q => H2.out (LineOk.n q (show ¬ (9 : Int) = 1 by decide)).2.2.2.2.2.2.2.1), bw4⟩
    ·
     have t2 : decide (of_ < 200) = false := by simpa using h2
     have H2 : Hid (¬ of_ < 200) := h2; clear h0 h2; go_wp2; go_ret; exact ⟨RetB.f (fun q => by have h2 := H2.out; have h3 : of_ ≤ 199 := (LineOk.n q (show ¬ (9 : Int) = 1 by decide)).2.1.2; omega), bw4⟩
   ·
    have t0 : decide (0 ≤ of_) = false := by simpa using h0
    have H2 : Hid (¬ 0 ≤ of_) := h0; clear h0; go_wp2; go_ret; exact ⟨RetB.f (fun q => by have h2 := H2.out; have h3 : 0 ≤ of_ := (LineOk.n q (show ¬ (9 : Int) = 1 by decide)).2.1.1; omega), bw4⟩
  ·
   have HL : Hid (¬ LeftOk 1 of_ holder kind secs.length text) := fun h => hz (hbits.2 h); have tz : (bits .andNot .i64 (fbits of_ holder kind secs.length text : Nat) 1 == 0) = false := by simpa using hz
   have tz' : (bits .andNot .i64 (fbits of_ holder kind secs.length text : Nat) 1 != 0) = true := by simpa using hz
   clear hbits hz; go_wp2; go_ret; exact ⟨RetB.f (fun q => HL.out (have u := (LineOk.n q (show ¬ (9 : Int) = 1 by decide)); ⟨fun h => absurd h (by decide), fun _ => u.2.2.2.2.2.1 (show ¬ ((9 : Int) = 3 ∨ (9 : Int) = 4) by decide), fun _ => ⟨u.2.2.1, u.2.2.2.1⟩, fun _ => u.2.2.2.2.2.2.1 (show ¬ (9 : Int) = 3 by decide)⟩)), bw3⟩
 have hv : hapV op of_ holder kind ad secs.length ca text = .nilIface := by unfold hapV; rw [if_neg o1, if_neg o2, if_neg o3, if_neg o4, if_neg o5, if_neg o6, if_neg o7, if_neg o8, if_neg o9]
 rw [hv]; have HO : Hid (¬ In op 1 9) := fun q => by unfold In at q; omega
 clear hv o1 o2 o3 o4 o5 o6 o7 o8 o9; go_wp2; go_ret; exact ⟨RetB.f (fun q => HO.out (LineOk.in19 q)), bw⟩
def FWords (w : World) : Prop := ∀ k : Int, In k 1 9 → w.cell? ⟨1, k.toNat, none⟩ = some (.string (wordB k))
theorem FWords.below {w w' : World} (h : FWords w) (hb : Below w.heap.size w w') : FWords w' := fun k hk =>
 (hb.cell (p := ⟨1, k.toNat, none⟩) (World.block_lt_of_cell? _ _ (h k hk))).trans (h k hk)
def RetOW (e : Ending) (E : Ev) : Prop := ∃ s, e = .returned (.string s) ∧ bl s = bl E.holder ++ kindL E.kind ++ secT (eOrd E) E.secs.length ∧ s.size ≤ 200
theorem bl_kind1 (h : ByteArray) : bl (h ++ ⟨#[32]⟩ ++ ⟨#[112, 97, 115, 115]⟩) = bl h ++ kindL 1 := by
 rw [bl_append, bl_append, List.append_assoc]; rfl
theorem bl_kind2 (h : ByteArray) : bl (h ++ ⟨#[32]⟩ ++ ⟨#[119, 111, 114, 107]⟩) = bl h ++ kindL 2 := by
 rw [bl_append, bl_append, List.append_assoc]; rfl
set_option maxHeartbeats 4000000 in
theorem orderWords_any (ve : Value) (E : Ev) (w : World) (hE : LineW E) (hT : Lib.TabIs Tryz.prog w "internal/strconv.uint64pow10" .u64 Lib.pow10Tab) (GE : EvAt w ve E) :
  Calls Tryz.prog 35 #[ve] w fun e w' => RetOW e E ∧ Below w.heap.size w w' := by
 obtain ⟨ad, ca, rfl, KE⟩ := GE; obtain ⟨op, of_, holder, kind, secs, text⟩ := E; simp only at KE ⊢; have B1 := below1 w (.cells #[.int .i64 op, .int .i64 of_, .string holder, .int .i64 kind, .slice ad secs.length ca, .string text] 32); have HC : Hid (Cells w ad secs.length (iV secs) ∧ Lib.TabIs Tryz.prog w "internal/strconv.uint64pow10" .u64 Lib.pow10Tab) := ⟨KE, hT⟩; clear KE hT; obtain ⟨-, -, h1, h2, h3, -⟩ := hE; simp only at h1 h2 h3; have hhs : holder.size ≤ 20 := h1.2.2; have hns : secs.length ≤ 20 := h3.2.2; have a32 : (ByteArray.mk #[32]).size = 1 := rfl; have a4 : (ByteArray.mk #[112, 97, 115, 115]).size = 4 := rfl; have a4' : (ByteArray.mk #[119, 111, 114, 107]).size = 4 := rfl; have H3 : Hid (ListOk secs.length (fun i => secs.getD i 0) 60) := h3; have hadd1 := fun W => run_string_add_sum (P := Tryz.prog) W holder ⟨#[32]⟩ (by omega); have hadd2 := fun W => run_string_add_sum (P := Tryz.prog) W (holder ++ ⟨#[32]⟩) ⟨#[112, 97, 115, 115]⟩ (by rw [ByteArray.size_append]; omega); have hadd3 := fun W => run_string_add_sum (P := Tryz.prog) W (holder ++ ⟨#[32]⟩) ⟨#[119, 111, 114, 107]⟩ (by rw [ByteArray.size_append]; omega); clear h1 h3; rcases (show kind = 1 ∨ kind = 2 by unfold In at h2; omega) with rfl | rfl
 ·
  go_enter Tryz.func35, Tryz.ntmps35
  go_wp2; clear hadd1 hadd2 hadd3
  go_loopw [3, 20] (fun t q wr => ∃ (k : Nat) (s : ByteArray), k ≤ secs.length ∧ q = .int .i64 k ∧ t = .string s ∧ bl s = (bl holder ++ kindL 1) ++ secT (eOrd ⟨op, of_, holder, 1, secs, text⟩) k ∧ s.size ≤ 100 + 4 * k ∧ Below w.heap.size w wr) (fun _ i _ => secs.length - (intOf i).toNat)
  case atStart =>
   refine ⟨0, _, Nat.zero_le _, rfl, rfl, ?_, ?_, B1⟩
   · rw [bl_kind1, secT, List.append_nil]
   · rw [ByteArray.size_append, ByteArray.size_append]; omega
  case round =>
   obtain ⟨k, s, hk, rfl, rfl, hs1, hs2, hbr⟩ := hrel; have HS : Hid (bl s = (bl holder ++ kindL 1) ++ secT (eOrd ⟨op, of_, holder, 1, secs, text⟩) k) := hs1; clear hs1
   by_cases hlt : k < secs.length
   ·
    obtain ⟨b2, o2, d2, g2⟩ := HC.out.1.below hbr; obtain rfl := d2 (by omega); have hL : 0 ≤ secs.getD k 0 ∧ secs.getD k 0 ≤ 60 - 1 ∧ _ := H3.out.1 k hlt; obtain ⟨m, hm⟩ : ∃ m : Nat, secs.getD k 0 = (m : Int) := ⟨(secs.getD k 0).toNat, by omega⟩; have hm3 : m < 60 := by omega
    have e1 : wr.cell? ⟨b2, o2 + k, none⟩ = some (.int .i64 (m : Int)) := by rw [← hm]; exact g2 k hlt
    have HM : Hid (sV (eOrd ⟨op, of_, holder, 1, secs, text⟩) k = (m : Int)) := hm; clear g2 d2 hL hm
    go_wp2_with fail
    refine (itoa_any m _ (by omega) (tab_below HC.out.2 hbr)).mono ?_; rintro e w3 ⟨⟨d, rfl, hdd⟩, hb⟩; have HD : Hid (bl d = Lib.decDigits m) := hdd; have hds : d.size ≤ 3 := by rw [← bl_size, hdd]; exact dec_len m (by omega)
    clear hdd e1; have hb3 := below_trans hbr hbr.size hb; have hadd1 := fun W => run_string_add_sum (P := Tryz.prog) W ⟨#[32]⟩ d (by omega); have hadd2 := fun W => run_string_add_sum (P := Tryz.prog) W s (⟨#[32]⟩ ++ d) (by rw [ByteArray.size_append]; omega); clear hb; go_wp2; go_roundw
    case rel => exact ⟨k + 1, s ++ (⟨#[32]⟩ ++ d), by omega, by go_num, rfl, sec_step HS.out HM.out HD.out, by rw [ByteArray.size_append, ByteArray.size_append]; omega, hb3⟩
    case measure => simp [intOf]; omega
   ·
    obtain rfl : k = secs.length := by omega
    go_wp2; go_ret; exact ⟨⟨s, rfl, HS.out, by omega⟩, hbr⟩
 ·
  go_enter Tryz.func35, Tryz.ntmps35
  go_wp2; clear hadd1 hadd2 hadd3
  go_loopw [3, 20] (fun t q wr => ∃ (k : Nat) (s : ByteArray), k ≤ secs.length ∧ q = .int .i64 k ∧ t = .string s ∧ bl s = (bl holder ++ kindL 2) ++ secT (eOrd ⟨op, of_, holder, 2, secs, text⟩) k ∧ s.size ≤ 100 + 4 * k ∧ Below w.heap.size w wr) (fun _ i _ => secs.length - (intOf i).toNat)
  case atStart =>
   refine ⟨0, _, Nat.zero_le _, rfl, rfl, ?_, ?_, B1⟩
   · rw [bl_kind2, secT, List.append_nil]
   · rw [ByteArray.size_append, ByteArray.size_append]; omega
  case round =>
   obtain ⟨k, s, hk, rfl, rfl, hs1, hs2, hbr⟩ := hrel; have HS : Hid (bl s = (bl holder ++ kindL 2) ++ secT (eOrd ⟨op, of_, holder, 2, secs, text⟩) k) := hs1; clear hs1
   by_cases hlt : k < secs.length
   ·
    obtain ⟨b2, o2, d2, g2⟩ := HC.out.1.below hbr; obtain rfl := d2 (by omega); have hL : 0 ≤ secs.getD k 0 ∧ secs.getD k 0 ≤ 60 - 1 ∧ _ := H3.out.1 k hlt; obtain ⟨m, hm⟩ : ∃ m : Nat, secs.getD k 0 = (m : Int) := ⟨(secs.getD k 0).toNat, by omega⟩; have hm3 : m < 60 := by omega
    have e1 : wr.cell? ⟨b2, o2 + k, none⟩ = some (.int .i64 (m : Int)) := by rw [← hm]; exact g2 k hlt
    have HM : Hid (sV (eOrd ⟨op, of_, holder, 2, secs, text⟩) k = (m : Int)) := hm; clear g2 d2 hL hm
    go_wp2_with fail
    refine (itoa_any m _ (by omega) (tab_below HC.out.2 hbr)).mono ?_; rintro e w3 ⟨⟨d, rfl, hdd⟩, hb⟩; have HD : Hid (bl d = Lib.decDigits m) := hdd; have hds : d.size ≤ 3 := by rw [← bl_size, hdd]; exact dec_len m (by omega)
    clear hdd e1; have hb3 := below_trans hbr hbr.size hb; have hadd1 := fun W => run_string_add_sum (P := Tryz.prog) W ⟨#[32]⟩ d (by omega); have hadd2 := fun W => run_string_add_sum (P := Tryz.prog) W s (⟨#[32]⟩ ++ d) (by rw [ByteArray.size_append]; omega); clear hb; go_wp2; go_roundw
    case rel => exact ⟨k + 1, s ++ (⟨#[32]⟩ ++ d), by omega, by go_num, rfl, sec_step HS.out HM.out HD.out, by rw [ByteArray.size_append, ByteArray.size_append]; omega, hb3⟩
    case measure => simp [intOf]; omega
   ·
    obtain rfl : k = secs.length := by omega
    go_wp2; go_ret; exact ⟨⟨s, rfl, HS.out, by omega⟩, hbr⟩
set_option maxRecDepth 20000 in
set_option maxHeartbeats 8000000 in
theorem implLine_any (ve : Value) (E : Ev) (w : World) (he1 : E.holder.size ≤ 1048576) (he2 : E.text.size ≤ 1048576) (he3 : E.secs.length ≤ 1048576) (hT : Lib.TabIs Tryz.prog w "internal/strconv.uint64pow10" .u64 Lib.pow10Tab) (hW : FWords w) (GE : EvAt w ve E) :
  Calls Tryz.prog 13 #[ve] w fun e w' => RetLn e E ∧ Below w.heap.size w w' := by
 have GE0 := GE; obtain ⟨ad, ca, rfl, -⟩ := GE; have B1 := below1 w (.cells #[.int .i64 E.op, .int .i64 E.of_, .string E.holder, .int .i64 E.kind, .slice ad E.secs.length ca, .string E.text] 32); have HC0 : Hid (EvAt w (.agg #[.int .i64 E.op, .int .i64 E.of_, .string E.holder, .int .i64 E.kind, .slice ad E.secs.length ca, .string E.text]) E ∧ Lib.TabIs Tryz.prog w "internal/strconv.uint64pow10" .u64 Lib.pow10Tab ∧ FWords w) := ⟨GE0, hT, hW⟩; clear GE0 hT hW; have a32 : (ByteArray.mk #[32]).size = 1 := rfl
 go_enter Tryz.func13, Tryz.ntmps13
 go_wp2_with fail
 refine (tellable_any _ E _ he1 he2 he3 (HC0.out.1.below B1)).mono ?_; rintro e w1 ⟨hr, hb1⟩; have by1 : w1.heap[w.heap.size]? = some (.cells #[.int .i64 E.op, .int .i64 E.of_, .string E.holder, .int .i64 E.kind, .slice ad E.secs.length ca, .string E.text] 32 (0, 0)) := (hb1.block _ (by simp)).trans (Deep.blk_alloc_new _ _); have bw : Below w.heap.size w w1 := B1.trans (hb1.mono (by simp)); have zw : w.heap.size < w1.heap.size := by have := hb1.size; simp at this; omega
 obtain ⟨e0, e1, e2, e3, e4, e5⟩ := ev_cells by1; rcases hr.cases with ⟨rfl, hp⟩ | ⟨rfl, hp⟩
 case inr =>
  have HP : Hid (¬ LineOk E) := hp; clear hp hr hb1 by1 B1; go_wp2; go_ret; exact ⟨RetLn.no HP.out, bw⟩
 have HP : Hid (LineOk E) := hp; have hin : In E.op 1 9 := hp.in19; have HX : Hid (EvAt w1 (.agg #[.int .i64 E.op, .int .i64 E.of_, .string E.holder, .int .i64 E.kind, .slice ad E.secs.length ca, .string E.text]) E ∧ Lib.TabIs Tryz.prog w1 "internal/strconv.uint64pow10" .u64 Lib.pow10Tab ∧ FWords w1 ∧ w1.heap[w.heap.size]? = some (.cells #[.int .i64 E.op, .int .i64 E.of_, .string E.holder, .int .i64 E.kind, .slice ad E.secs.length ca, .string E.text] 32 (0, 0))) := ⟨HC0.out.1.below bw, tab_below HC0.out.2.1 bw, HC0.out.2.2.below bw, by1⟩; have hwd : w1.cell? ⟨1, E.op.toNat, none⟩ = some (.string (wordB E.op)) := HX.out.2.2.1 _ hin; have hws := wordB_size E.op; have hop0 : 0 ≤ E.op := by have := hin.1; omega
 have hop1 : E.op < 10 := by have := hin.2; omega
 have hadd1 := fun W => run_string_add_sum (P := Tryz.prog) W (wordB E.op) ⟨#[32]⟩ (by omega); have lg := World.block_lt_of_cell? _ _ hwd; simp only at lg; clear hp hr hb1 by1 B1 hin HC0
 by_cases o1 : E.op = 1
 ·
  have t1 : (E.op == 1) = true := by simpa using o1
  have HO : Hid (E.op = 1) := o1; clear o1; go_wp2
  go_region_held3 (fun w' => w'.cell? ⟨w.heap.size, 0, none⟩ = some (.int .i64 E.op) ∧ w'.cell? ⟨w.heap.size, 1, none⟩ = some (.int .i64 E.of_) ∧ w'.cell? ⟨w.heap.size, 2, none⟩ = some (.string E.holder) ∧ w'.cell? ⟨w.heap.size, 3, none⟩ = some (.int .i64 E.kind) ∧ w'.cell? ⟨w.heap.size, 4, none⟩ = some (.slice ad E.secs.length ca) ∧ w'.cell? ⟨w.heap.size, 5, none⟩ = some (.string E.text) ∧ w'.cell? ⟨1, E.op.toNat, none⟩ = some (.string (wordB E.op))) (go_keep)
   (first | (go_at_call 35; refine (orderWords_any _ E _ (HP.out.w HO.out) (tab_below HX.out.2.1 (Below.refl _ _).drew) (HX.out.1.below (Below.refl _ _).drew)).mono ?_; rintro e w2 ⟨⟨s, rfl, hs, hsz⟩, hb2⟩; have hbR : Below w1.heap.size w1 w2 := (Below.refl _ _).drew.trans hb2; obtain ⟨hc1, hf1⟩ := bcell hbR; have HS : Hid (bl s = bl E.holder ++ kindL E.kind ++ secT (eOrd E) E.secs.length) := hs; have hadd2 := fun W => run_string_add_sum (P := Tryz.prog) W (wordB E.op ++ ⟨#[32]⟩) s (by rw [ByteArray.size_append]; omega); clear hf1 hs hb2))
  go_wp2; go_ret; refine ⟨RetLn.yes HP.out ?_, below_trans bw bw.size hbR⟩; rw [lineT_1 HO.out, bl_append, bl_append, HS.out, HO.out]; unfold baseL; simp [bl]
 have t1 : (E.op == 1) = false := by simpa using o1
 have HN : Hid (LineN E) := HP.out.n o1; obtain ⟨m, hm⟩ : ∃ m : Nat, E.of_ = (m : Int) := ⟨E.of_.toNat, by have := HN.out.2.1.1; omega⟩; have HM : Hid (E.of_ = (m : Int)) := hm; have hm2 : m ≤ 199 := by have := HN.out.2.1.2; omega
 rw [hm] at e1; have HO : Hid (¬ E.op = 1) := o1; clear o1 hm e3 e4; go_wp2
 go_region_held3 (fun w' => w'.cell? ⟨w.heap.size, 0, none⟩ = some (.int .i64 E.op) ∧ w'.cell? ⟨w.heap.size, 1, none⟩ = some (.int .i64 (m : Int)) ∧ w'.cell? ⟨1, E.op.toNat, none⟩ = some (.string (wordB E.op))) (go_keep)
  (first | (go_at_call 36; refine (itoa_any m _ (by omega) (tab_below HX.out.2.1 (Below.refl _ _).drew)).mono ?_; rintro e w2 ⟨⟨d, rfl, hdd⟩, hb2⟩; have hbR : Below w1.heap.size w1 w2 := (Below.refl _ _).drew.trans hb2; obtain ⟨hc1, hf1⟩ := bcell hbR; have hds : d.size ≤ 3 := (by rw [← bl_size, hdd]; exact dec_len m (by omega)); have HD : Hid (bl d = Lib.decDigits m) := hdd; have hadd2 := fun W => run_string_add_sum (P := Tryz.prog) W (wordB E.op ++ ⟨#[32]⟩) d (by rw [ByteArray.size_append]; omega); clear hf1 hdd hb2))
 have by2 := (hbR.block _ zw).trans HX.out.2.2.2; have bw2 := below_trans bw bw.size hbR; clear hc1 e0 e1 e2 e5 hbR hwd hadd1 hadd2; obtain ⟨e0, e1, e2, e3, e4, e5⟩ := ev_cells by2
 have HS : Hid (bl (wordB E.op ++ ⟨#[32]⟩ ++ d) = ofL E) := by
  show _ = ofL E
  unfold ofL; rw [bl_append, bl_append, HD.out, HM.out]; simp [bl]
 obtain ⟨s, hs⟩ : ∃ s, s = wordB E.op ++ ⟨#[32]⟩ ++ d := ⟨_, rfl⟩; have hss : s.size ≤ 12 := by rw [hs, ByteArray.size_append, ByteArray.size_append]; omega
 rw [← hs] at HS ⊢; clear hs e1 e3 e4 by2 HD
 by_cases o3 : E.op = 3
 ·
  have t3 : (E.op == 3) = true := by simpa using o3
  have t4 : (E.op == 4) = false := by rw [o3]; rfl
  have hhs : E.holder.size ≤ 20 := (HN.out.2.2.2.2.1 (Or.inl o3)).2.2; have hts : E.text.size ≤ 200 := HN.out.2.2.2.2.2.2.2.1; have H3 : Hid (E.op = 3) := o3; have hadd3 := fun W => run_string_add_sum (P := Tryz.prog) W ⟨#[32]⟩ E.holder (by omega); have hadd4 := fun W => run_string_add_sum (P := Tryz.prog) W s (⟨#[32]⟩ ++ E.holder) (by rw [ByteArray.size_append]; omega); have hadd5 := fun W => run_string_add_sum (P := Tryz.prog) W ⟨#[58, 32]⟩ E.text (by have : (ByteArray.mk #[58, 32]).size = 2 := rfl; omega); have hadd6 := fun W => run_string_add_sum (P := Tryz.prog) W (s ++ (⟨#[32]⟩ ++ E.holder)) (⟨#[58, 32]⟩ ++ E.text) (by rw [ByteArray.size_append, ByteArray.size_append, ByteArray.size_append]; have : (ByteArray.mk #[58, 32]).size = 2 := rfl; omega); clear o3; go_wp2; go_ret; refine ⟨RetLn.yes HP.out ?_, bw2⟩; rw [bl_colon, bl_blank, HS.out, lineT_3 H3.out]
 have t3 : (E.op == 3) = false := by simpa using o3
 by_cases o4 : E.op = 4
 ·
  have t4 : (E.op == 4) = true := by simpa using o4
  have hhs : E.holder.size ≤ 20 := (HN.out.2.2.2.2.1 (Or.inr o4)).2.2; have H4 : Hid (E.op = 4) := o4; have hadd3 := fun W => run_string_add_sum (P := Tryz.prog) W ⟨#[32]⟩ E.holder (by omega); have hadd4 := fun W => run_string_add_sum (P := Tryz.prog) W s (⟨#[32]⟩ ++ E.holder) (by rw [ByteArray.size_append]; omega); clear o3 o4; go_wp2; go_ret; refine ⟨RetLn.yes HP.out ?_, bw2⟩; rw [bl_blank, HS.out, lineT_4 H4.out]
 have t4 : (E.op == 4) = false := by simpa using o4
 have H5 : Hid (¬ E.op = 3 ∧ ¬ E.op = 4) := ⟨o3, o4⟩; clear o3 o4; go_wp2; go_ret; refine ⟨RetLn.yes HP.out ?_, bw2⟩; rw [HS.out, lineT_0 HO.out H5.out.1 H5.out.2]
end Go.Proofs.YtdlaekjofgbjcaaGreatDoor
