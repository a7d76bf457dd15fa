/-
 The contracts of the happenings' methods. Mine, by template (wip/gen.py).
-/
import Derived.Test.YtdlaekjofgbjcaaGreatDoorEvI
namespace Go.Proofs.YtdlaekjofgbjcaaGreatDoor
open Go.RowKit
theorem named_writing (v : Value) (a b c d : Value) (hv : v = .agg #[a, b, c, d]) (w : World) : Calls Tryz.prog 155 #[v] w fun e w' => e = .returned (.int .i64 14) ∧ Below w.heap.size w w' := by
 subst hv
 go_enter Tryz.func155, Tryz.ntmps155
 go_wp2; go_ret; exact ⟨rfl, below1 _ _⟩
theorem named_ofOrder (a : Value) (w : World) : Calls Tryz.prog 157 #[.agg #[a]] w fun e w' => e = .returned (.int .i64 1) ∧ Below w.heap.size w w' := by
 go_enter Tryz.func157, Tryz.ntmps157
 go_wp2; go_ret; exact ⟨rfl, below1 _ _⟩
theorem named_ofSection (a : Value) (w : World) : Calls Tryz.prog 163 #[.agg #[a]] w fun e w' => e = .returned (.int .i64 1) ∧ Below w.heap.size w w' := by
 go_enter Tryz.func163, Tryz.ntmps163
 go_wp2; go_ret; exact ⟨rfl, below1 _ _⟩
theorem named_givingBack (a b : Value) (w : World) : Calls Tryz.prog 161 #[.agg #[a, b]] w fun e w' => e = .returned (.int .i64 3) ∧ Below w.heap.size w w' := by
 go_enter Tryz.func161, Tryz.ntmps161
 go_wp2; go_ret; exact ⟨rfl, below1 _ _⟩
theorem named_repeating (a b c : Value) (w : World) : Calls Tryz.prog 159 #[.agg #[a, b, c]] w fun e w' => e = .returned (.int .i64 19) ∧ Below w.heap.size w w' := by
 go_enter Tryz.func159, Tryz.ntmps159
 go_wp2; go_ret; exact ⟨rfl, below1 _ _⟩
theorem fits_writing (x : Ord) (ad : Option Addr) (c : Nat) (lim : Int) (a1 a2 a3 : Value) (w : World) (hs : x.holder.size ≤ 4294967296) (hn : x.secs.length ≤ 4294967296) (G : Cells w ad x.secs.length (iV x.secs)) :
  Calls Tryz.prog 154 #[.agg #[.string x.holder, .int .i64 x.kind, .slice ad x.secs.length c, .int .i64 x.state], .agg #[.int .i64 lim, a1, a2, a3]] w fun e w' => RetB e (OrdOk x lim) ∧ Below w.heap.size w w' := by
 have B2 := below2 w (.cells #[.string x.holder, .int .i64 x.kind, .slice ad x.secs.length c, .int .i64 x.state] 134) (.cells #[.int .i64 lim, a1, a2, a3] 37)
 go_enter Tryz.func154, Tryz.ntmps154
 go_wp2_with fail
 refine (orderOk_any x ad c lim _ hs hn (G.below B2)).mono ?_; rintro e w1 ⟨hr, hb⟩; have bw : Below w.heap.size w w1 := B2.trans (hb.mono B2.size); clear hb B2; rcases hr.cases with ⟨rfl, hp⟩ | ⟨rfl, hp⟩
 ·
  have HP : Hid (OrdOk x lim) := hp; clear hp hr; go_wp2; go_ret; exact ⟨RetB.t HP.out, bw⟩
 ·
  have HP : Hid (¬ OrdOk x lim) := hp; clear hp hr; go_wp2; go_ret; exact ⟨RetB.f HP.out, bw⟩
theorem fits_ofOrder (o : Int) (k : Nat) (ao : Option Addr) (co : Nat) (a0 a2 a3 : Value) (w : World) :
  Calls Tryz.prog 156 #[.agg #[.int .i64 o], .agg #[a0, .slice ao k co, a2, a3]] w fun e w' => RetB e (In o 0 ((k : Int) - 1)) ∧ Below w.heap.size w w' := by
 by_cases h1 : 0 ≤ o
 ·
  have t1 : decide (0 ≤ o) = true := by simpa using h1
  by_cases h2 : o < (k : Int)
  ·
   have t2 : decide (o < (k : Int)) = true := by simpa using h2
   go_enter Tryz.func156, Tryz.ntmps156
   go_wp2; go_ret; exact ⟨RetB.t ⟨h1, by omega⟩, below2 _ _ _⟩
  ·
   have t2 : decide (o < (k : Int)) = false := by simpa using h2
   go_enter Tryz.func156, Tryz.ntmps156
   go_wp2; go_ret; exact ⟨RetB.f (fun q => by have := q.2; omega), below2 _ _ _⟩
 ·
  have t1 : decide (0 ≤ o) = false := by simpa using h1
  go_enter Tryz.func156, Tryz.ntmps156
  go_wp2; go_ret; exact ⟨RetB.f (fun q => by have := q.1; omega), below2 _ _ _⟩
theorem fits_ofSection (o n : Int) (a1 a2 a3 : Value) (w : World) :
  Calls Tryz.prog 162 #[.agg #[.int .i64 o], .agg #[.int .i64 n, a1, a2, a3]] w fun e w' => RetB e (In o 0 (n - 1)) ∧ Below w.heap.size w w' := by
 by_cases h1 : 0 ≤ o
 ·
  have t1 : decide (0 ≤ o) = true := by simpa using h1
  by_cases h2 : o < n
  ·
   have t2 : decide (o < n) = true := by simpa using h2
   go_enter Tryz.func162, Tryz.ntmps162
   go_wp2; go_ret; exact ⟨RetB.t ⟨h1, by omega⟩, below2 _ _ _⟩
  ·
   have t2 : decide (o < n) = false := by simpa using h2
   go_enter Tryz.func162, Tryz.ntmps162
   go_wp2; go_ret; exact ⟨RetB.f (fun q => by have := q.2; omega), below2 _ _ _⟩
 ·
  have t1 : decide (0 ≤ o) = false := by simpa using h1
  go_enter Tryz.func162, Tryz.ntmps162
  go_wp2; go_ret; exact ⟨RetB.f (fun q => by have := q.1; omega), below2 _ _ _⟩
theorem fits_givingBack (o : Int) (s : ByteArray) (k : Nat) (ao : Option Addr) (co : Nat) (a0 a2 a3 : Value) (w : World) (hs : s.size ≤ 4294967296) :
  Calls Tryz.prog 160 #[.agg #[.int .i64 o, .string s], .agg #[a0, .slice ao k co, a2, a3]] w fun e w' => RetB e (In o 0 ((k : Int) - 1) ∧ NameOk s) ∧ Below w.heap.size w w' := by
 have B2 := below2 w (.cells #[.int .i64 o, .string s] 145) (.cells #[a0, .slice ao k co, a2, a3] 37)
 go_enter Tryz.func160, Tryz.ntmps160
 go_wp2_with fail
 refine (fits_ofOrder o k ao co a0 a2 a3 _).mono ?_; rintro e w1 ⟨hr, hb⟩; have bw : Below w.heap.size w w1 := B2.trans (hb.mono B2.size); obtain ⟨hc, hf⟩ := bcell hb; clear hb B2 hf; rcases hr.cases with ⟨rfl, hp⟩ | ⟨rfl, hp⟩
 ·
  have HP : Hid (In o 0 ((k : Int) - 1)) := hp; clear hp hr
  go_wp2_with fail
  refine (nameOk_any s _ hs).mono ?_; rintro e w' ⟨hr, rfl⟩; rcases hr.cases with ⟨rfl, hp⟩ | ⟨rfl, hp⟩
  ·
   have HQ : Hid (NameOk s) := hp; clear hp hr; go_wp2; go_ret; exact ⟨RetB.t ⟨HP.out, HQ.out⟩, bw⟩
  ·
   have HQ : Hid (¬ NameOk s) := hp; clear hp hr; go_wp2; go_ret; exact ⟨RetB.f (fun q => HQ.out q.2), bw⟩
 ·
  have HP : Hid (¬ In o 0 ((k : Int) - 1)) := hp; clear hp hr; go_wp2; go_ret; exact ⟨RetB.f (fun q => HP.out q.1), bw⟩
theorem fits_repeating (o : Int) (s t : ByteArray) (k : Nat) (ao : Option Addr) (co : Nat) (a0 a2 a3 : Value) (w : World) (hs : s.size ≤ 4294967296) :
  Calls Tryz.prog 158 #[.agg #[.int .i64 o, .string s, .string t], .agg #[a0, .slice ao k co, a2, a3]] w fun e w' => RetB e (In o 0 ((k : Int) - 1) ∧ NameOk s ∧ t.size ≤ 200) ∧ Below w.heap.size w w' := by
 have B2 := below2 w (.cells #[.int .i64 o, .string s, .string t] 142) (.cells #[a0, .slice ao k co, a2, a3] 37)
 go_enter Tryz.func158, Tryz.ntmps158
 go_wp2_with fail
 refine (fits_ofOrder o k ao co a0 a2 a3 _).mono ?_; rintro e w1 ⟨hr, hb⟩; have bw : Below w.heap.size w w1 := B2.trans (hb.mono B2.size); obtain ⟨hc, hf⟩ := bcell hb; clear hb B2 hf; rcases hr.cases with ⟨rfl, hp⟩ | ⟨rfl, hp⟩
 ·
  have HP : Hid (In o 0 ((k : Int) - 1)) := hp; clear hp hr
  go_wp2_with fail
  refine (nameOk_any s _ hs).mono ?_; rintro e w' ⟨hr, rfl⟩; rcases hr.cases with ⟨rfl, hp⟩ | ⟨rfl, hp⟩
  ·
   have HQ : Hid (NameOk s) := hp; clear hp hr
   by_cases h : t.size ≤ 200
   ·
    have tt : decide ((t.size : Int) ≤ 200) = true := decide_eq_true (by omega); go_wp2; go_ret; exact ⟨RetB.t ⟨HP.out, HQ.out, h⟩, bw⟩
   ·
    have tt : decide ((t.size : Int) ≤ 200) = false := decide_eq_false (by omega); go_wp2; go_ret; exact ⟨RetB.f (fun q => h q.2.2), bw⟩
  ·
   have HQ : Hid (¬ NameOk s) := hp; clear hp hr; go_wp2; go_ret; exact ⟨RetB.f (fun q => HQ.out q.2.1), bw⟩
 ·
  have HP : Hid (¬ In o 0 ((k : Int) - 1)) := hp; clear hp hr; go_wp2; go_ret; exact ⟨RetB.f (fun q => HP.out q.1), bw⟩
end Go.Proofs.YtdlaekjofgbjcaaGreatDoor
