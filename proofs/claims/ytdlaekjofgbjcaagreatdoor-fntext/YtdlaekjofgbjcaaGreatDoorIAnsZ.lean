import Derived.Test.YtdlaekjofgbjcaaGreatDoorSAnsZ
import Derived.RangeFuncNested
import Derived.RangeFuncBound
import Derived.RangeFuncCalls
import Derived.RangeFuncLeaves
import Derived.RangeFuncWrites
import Derived.Shelf.Abstract
import Derived.Shelf.RegionOpen
import Derived.WalkKit
import Derived.OwnWalkIn
import Derived.TacticsInMore
import Derived.LoopNIn
import Derived.LoopIn
import Derived.Test.YtdlaekjofgbjcaaGreatDoorAnsY
import Derived.Test.YtdlaekjofgbjcaaGreatDoorBegin
import Derived.Shelf.Strings.BuilderK
/-
 The contracts of impl.lines and of its closure, an iterator. Mine, by template (wip/gen.py).
-/
namespace Go.Proofs.YtdlaekjofgbjcaaGreatDoor
open Go.RowKit Go.Shelf
attribute [local go_sem] Oper.semAt_some
abbrev Ln := { x : ByteArray // x.size ≤ 65536 }
def lnL (x : Ln) : List UInt8 := bl x.1
def strSz : Value → Nat
 | .string s => s.size
 | _ => 0
theorem linesJ_len (f : Nat) : ∀ l : List UInt8, (linesJ f l).length ≤ f := by
 induction f with
 | zero => intro l; simp [linesJ]
 | succ f ih =>
  intro l; simp only [linesJ]; split
  · simp
  ·
   have := ih (Lib.cut l [10]).2.1
   split <;> simp <;> omega
theorem linesOf_len (l : List UInt8) : (linesOf l).length ≤ l.length := linesJ_len _ _
theorem lines_any (s : ByteArray) (w : World) :
  Calls Tryz.prog 48 #[.string s] w fun e w' => e = .returned (.func (.func 76) #[] #[.pointer (some ⟨w.heap.size, 0, none⟩)]) ∧ w' = w.alloc (.cells #[.string s] 9) := by
 go_enter Tryz.func48, Tryz.ntmps48
 go_wp2; go_ret; exact ⟨rfl, rfl⟩
theorem isEmpty_false {s : ByteArray} (h : 0 < s.size) : s.toList.isEmpty = false := by
 rw [ByteArray.toList_eq]; cases hx : s.data.toList with
 | nil => exact absurd (show s.size = 0 by rw [← bl_size]; show s.data.toList.length = 0; rw [hx]; rfl) (by omega)
 | cons a b => rfl
theorem isEmpty_true {s : ByteArray} (h : s.size = 0) : s.toList.isEmpty = true := by
 rw [ByteArray.toList_eq, nil_of h]; rfl
set_option maxRecDepth 20000 in
set_option maxHeartbeats 8000000 in
theorem lines1_stops (F : Fence) (n : Nat) (h7 : F.fn 76) (h77 : F.fn 77) (hro : F.round = none) (hn : 1 ≤ n) (hC : ∀ (s : ByteArray) (m : Int) (w : World), s.size < 4294967281 → w.cell? ⟨9, 0, none⟩ = some (.int .i64 m) → CallsIn F (n - 1) Tryz.prog 77 #[.string s, .string ⟨#[10]⟩] w fun e w' => e = .returned (.tuple #[.string ⟨(Lib.cut s.data.toList [10]).1.toArray⟩, .string ⟨(Lib.cut s.data.toList [10]).2.1.toArray⟩, .bool (Lib.cut s.data.toList [10]).2.2]) ∧ ∃ n, w' = w.drewN n)
  (Bn n0 : Nat) (s : ByteArray) (m : Int) (w : World) (hs : s.size ≤ 65536) (hG : 15 ≤ n0) (hw : n0 ≤ w.heap.size) (hx : w.cell? ⟨Bn, 0, none⟩ = some (.string s)) (hm : w.cell? ⟨9, 0, none⟩ = some (.int .i64 m)) :
  SeqStopsK F n Tryz.prog 76 #[.pointer (some ⟨Bn, 0, none⟩)] (fun x : Ln => #[.string x.1]) (Below n0) (fun xs => xs.map lnL = linesOf (bl s)) (fun _ => True) (linesOf (bl s)).length w := fun l J Jx W hbW hJ _ hY h0 => by
 have hx1 : W.cell? ⟨Bn, 0, none⟩ = some (.string s) := (hbW.cell (p := ⟨Bn, 0, none⟩) (World.block_lt_of_cell? _ _ hx)).trans hx; have HM : Hid (W.cell? ⟨9, 0, none⟩ = some (.int .i64 m)) := (hbW.cell (p := ⟨9, 0, none⟩) (World.block_lt_of_cell? _ _ hm)).trans hm; have HY : Hid (∀ pre x W1, J pre W1 → pre.length < (linesOf (bl s)).length → YieldAt F (n - 1) Tryz.prog l #[.string x.1] W1 fun e W' => (e = .returned (.bool true) ∧ J (pre ++ [x]) W' ∧ Below n0 W1 W') ∨ (e = .returned (.bool false) ∧ Jx (pre ++ [x]) W')) := hY; have HJ : Hid (AbidesFrom W.heap.size J) := hJ; have HC : Hid (∀ (s : ByteArray) (m : Int) (w : World), s.size < 4294967281 → w.cell? ⟨9, 0, none⟩ = some (.int .i64 m) → CallsIn F (n - 1) Tryz.prog 77 #[.string s, .string ⟨#[10]⟩] w fun e w' => e = .returned (.tuple #[.string ⟨(Lib.cut s.data.toList [10]).1.toArray⟩, .string ⟨(Lib.cut s.data.toList [10]).2.1.toArray⟩, .bool (Lib.cut s.data.toList [10]).2.2]) ∧ ∃ n, w' = w.drewN n) := hC; have HW : Hid (n0 ≤ W.heap.size) := Nat.le_trans hw hbW.size; clear hY hJ hm hx hC hbW; refine callsIn_of_wp Tryz.func76 rfl h7 ?_ hro; simp only [Tryz.ntmps76, List.size_toArray, List.length_cons, List.length_nil, Nat.reduceAdd, Nat.reduceSub, Array.replicate_succ, Array.replicate_zero, List.push_toArray, List.append_toArray, List.nil_append, List.cons_append]
 gi_wp2
 gi_loopw [3] (fun p wr => ∃ (pre : List Ln) (r : ByteArray), p = .string r ∧ r.size ≤ 65536 ∧ pre.map lnL ++ linesOf (bl r) = linesOf (bl s) ∧ J pre wr ∧ Below n0 W wr) (fun p _ => strSz p)
 case atStart => exact ⟨[], s, rfl, hs, rfl, h0, Below.refl _ _⟩
 case round =>
  obtain ⟨pre, r, rfl, hr, hl, hJs, hbr⟩ := hrel; have HJs : Hid (J pre wr) := hJs; have HBr : Hid (Below n0 W wr) := hbr; have HL : Hid (pre.map lnL ++ linesOf (bl r) = linesOf (bl s)) := hl; clear hJs hbr hl
  by_cases h0 : r.size = 0
  ·
   have te := isEmpty_true h0; clear h0
   gi_wp2
   go_end0
   have e : bl r = [] := by
    rw [ByteArray.toList_eq] at te; exact List.isEmpty_iff.1 te
   exact ⟨⟨_, rfl⟩, .inl ⟨pre, by have := HL.out; rw [e, linesOf_nil, List.append_nil] at this; exact this, HJs.out⟩⟩
  have te := isEmpty_false (s := r) (by omega); have hcut := HC.out r m wr (by omega) ((HBr.out.cell (p := ⟨9, 0, none⟩) (by show 9 < n0; omega)).trans HM.out); have hne : bl r ≠ [] := fun e => h0 (by rw [← bl_size, e]; rfl); have hst := linesOf_step hne; have hcl := cut_len (bl r) 10 [] hne; have hcf := cut_fst_len (bl r) [10]; have hrl := bl_size r; obtain ⟨x, hab⟩ : ∃ x, Lib.cut (bl r) [10] = x := ⟨_, rfl⟩; have hab' : Lib.cut r.data.toList [10] = x := hab; rw [hab] at hst hcl hcf; rw [hab'] at hcut; obtain ⟨a, b, f⟩ := x; have HCu : Hid (CallsIn F (n - 1) Tryz.prog 77 #[.string r, .string ⟨#[10]⟩] wr fun e w' => e = .returned (.tuple #[.string (mkB a), .string (mkB b), .bool f]) ∧ ∃ n, w' = wr.drewN n) := hcut; have hal : a.length ≤ 65536 := by show a.length ≤ _; have : a.length ≤ (bl r).length := hcf; omega
  have hbl : b.length < r.size := by have : b.length < (bl r).length := hcl; omega
  have HS : Hid (linesOf (bl r) = (if a = [] then [] else [a]) ++ linesOf b) := hst; have ma := mkB_size a; have mb := mkB_size b; clear hcut hst hcl hcf hab hab' hne hrl; obtain ⟨sa, hsa⟩ : ∃ x, mkB a = x := ⟨_, rfl⟩; obtain ⟨sb, hsb⟩ : ∃ x, mkB b = x := ⟨_, rfl⟩; have HA : Hid (bl sa = a) := by show bl sa = a; rw [← hsa, bl_mkB]
  have HB2 : Hid (bl sb = b) := by show bl sb = b; rw [← hsb, bl_mkB]
  rw [hsa] at HCu ma; rw [hsb] at HCu mb; clear hsa hsb h0
  gi_wp2_with fail
  refine HCu.out.mono ?_; rintro e w1 ⟨rfl, k, hw1⟩; have hb1 : Below wr.heap.size wr w1 := hw1 ▸ below_drewN (Below.refl _ _) k; have HJ1 : Hid (J pre w1) := HJ.out pre wr w1 none HJs.out ⟨hb1.os, hb1.tape, hb1.output, hb1.size, fun j hj _ => hb1.block j hj⟩ (fun r e => by cases e); have HB1 : Hid (Below n0 W w1) := HBr.out.trans (hb1.mono (Nat.le_trans HW.out HBr.out.size)); clear hw1 hb1 HCu te
  by_cases ha : a = []
  ·
   have te := isEmpty_true (s := sa) (by rw [ma, ha]; rfl)
   have HL2 : Hid (pre.map lnL ++ linesOf (bl sb) = linesOf (bl s)) := by
    show _ = _
    rw [← HL.out, HS.out, if_pos ha, List.nil_append, HB2.out]
   clear ha
   gi_wp2
   refine ⟨fun _ h => (by cases h), ?_⟩
   gi_wp2
   go_roundw
   case rel => exact ⟨pre, sb, rfl, by omega, HL2.out, HJ1.out, HB1.out⟩
   case measure => show sb.size < r.size; omega
  ·
   have te := isEmpty_false (s := sa) (by have := List.length_pos_iff.2 ha; omega)
   have HL2 : Hid ((pre ++ [(⟨sa, by omega⟩ : Ln)]).map lnL ++ linesOf (bl sb) = linesOf (bl s)) := by
    show _ = _
    rw [← HL.out, HS.out, if_neg ha, List.map_append, List.append_assoc, HB2.out]; show _ ++ ([bl sa] ++ _) = _
    rw [HA.out]
   have hpl : pre.length < (linesOf (bl s)).length := by
    have := congrArg List.length HL2.out; simp at this; omega
   obtain ⟨fn, tmps, assign, body, hy, hR⟩ := HY.out pre ⟨sa, by omega⟩ w1 HJ1.out hpl; clear ha hpl
   gi_wp2
   refine hR.mono ?_; rintro e W3 (⟨rfl, hJ3, hk3⟩ | ⟨rfl, hJx3⟩)
   ·
    have HB3 : Hid (Below n0 W W3) := HB1.out.trans hk3; have HJ3 : Hid (J (pre ++ [(⟨sa, by omega⟩ : Ln)]) W3) := hJ3; clear hk3 hJ3 hR
    gi_wp2
    go_roundw
    case rel => exact ⟨_, sb, rfl, by omega, HL2.out, HJ3.out, HB3.out⟩
    case measure => show sb.size < r.size; omega
   ·
    gi_wp2
    refine bodyPost_ret (results_none rfl _ _ _) rfl ?_; exact ⟨⟨_, rfl⟩, .inr ⟨_, trivial, hJx3⟩⟩
end Go.Proofs.YtdlaekjofgbjcaaGreatDoor
/-
 What impl.Answer keeps. Mine, by template (wip/gen.py).
-/
namespace Go.Proofs.YtdlaekjofgbjcaaGreatDoor
open Go.RowKit Go.Shelf
theorem book_types {w : World} {lo : Nat} {v : Value} {B : Bk} {K : Blk} (h : OwnBook w lo v B K) {b : Nat} (hb : bookBlocks B K b) : ∃ c t f, w.heap[b]? = some (.cells c t f) ∧ t ≠ 5 ∧ t ≠ 94 ∧ t ≠ 37 := by
 obtain ⟨ao, co, al, cl, ac, cc, _, h1, h2, h3⟩ := h.shape; rcases hb with (⟨hp, rfl⟩ | ⟨i, hi, hp, rfl⟩) | ⟨hp, rfl⟩ | ⟨hp, rfl⟩
 ·
  obtain ⟨c, q, -⟩ := h1.row hp; exact ⟨c, _, _, q, by decide, by decide, by decide⟩
 ·
  obtain ⟨c, q, -⟩ := (h1.sec i hi hp).2; exact ⟨c, _, _, q, by decide, by decide, by decide⟩
 ·
  obtain ⟨c, q, -⟩ := h2.row hp; exact ⟨c, _, _, q, by decide, by decide, by decide⟩
 ·
  obtain ⟨c, q, -⟩ := h3.row hp; exact ⟨c, _, _, q, by decide, by decide, by decide⟩
def NoBk (w : World) (x : Nat) : Prop := ∀ c t f, w.heap[x]? = some (Obj.cells c t f) → t = 5 ∨ t = 94
def NoBld (w : World) (x : Nat) : Prop := ∀ c t f, w.heap[x]? = some (Obj.cells c t f) → t ≠ 5 ∧ t ≠ 94
theorem ownBook_fr3 {S : Nat → Prop} {w w' : World} {lo : Nat} {v : Value} {B : Bk} {K : Blk} (h : OwnBook w lo v B K) (hf : Fr S w w') (hS : ∀ x, S x → NoBk w x) : OwnBook w' lo v B K :=
 h.fr hf (fun b hb e => by
  obtain ⟨c, t, f, h1, h2, h3, -⟩ := book_types h hb; rcases hS b e c t f h1 with q | q
  · exact h2 q
  · exact h3 q)
theorem bkVar_fr3 {S : Nat → Prop} {w w' : World} {lo P : Nat} {B : Bk} (h : BkVar w lo P B) (hf : Fr S w w') (hS : ∀ x, S x → NoBk w x) : BkVar w' lo P B := by
 obtain ⟨ao, co, al, cl, ac, cc, K, h1, h2, h3⟩ := h; refine ⟨ao, co, al, cl, ac, cc, K, (hf.block _ (Array.getElem?_eq_some_iff.1 h1).1 (fun e => ?_)).trans h1, ownBook_fr3 h2 hf hS, h3⟩; rcases hS _ e _ _ _ h1 with q | q
 · exact absurd q (by decide)
 · exact absurd q (by decide)
def BldF (b : Nat) (l : List UInt8) (w : World) : Prop := Lib.IsBuilderF 94 5 b b (Lib.byteCells l) w
theorem BldF.fresh (w : World) : BldF w.heap.size [] (w.alloc (.cells #[.pointer none, .slice none 0 0] 94)) := Lib.IsBuilderF.of (Lib.fresh_isBuilder _ _ w)
theorem builderF_fr {S : Nat → Prop} {b : Nat} {p : Value} {bs : List Value} {w w' : World} (h : Lib.BuilderAtF 94 5 b b p bs w) (hf : Fr S w w') (hS : ∀ x, S x → NoBld w x) : Lib.BuilderAtF 94 5 b b p bs w' := by
 have hlt := h.lt; obtain ⟨h1, v, h2, ⟨h3, h4⟩, h5⟩ := h; refine ⟨h1, v, (hf.block b hlt (fun e => (hS b e _ _ _ h2).2 rfl)).trans h2, ⟨h3, ?_⟩, h5⟩; rcases h4 with h4 | ⟨g, cap, cur, fz, q1, q2, q3, q4⟩
 · exact .inl h4
 · exact .inr ⟨g, cap, cur, fz, q1, q2, (hf.block g (Array.getElem?_eq_some_iff.1 q3).1 (fun e => (hS g e _ _ _ q3).1 rfl)).trans q3, q4⟩
theorem BldF.fr {S : Nat → Prop} {b : Nat} {l : List UInt8} {w w' : World} (h : BldF b l w) (hf : Fr S w w') (hS : ∀ x, S x → NoBld w x) : BldF b l w' := by
 rcases h with h | h
 · exact Or.inl (builderF_fr h hf hS)
 · exact Or.inr (builderF_fr h hf hS)
theorem BldF.lt {b : Nat} {l : List UInt8} {w : World} (h : BldF b l w) : b < w.heap.size := by
 rcases h with h | h <;> exact h.lt
theorem BldF.box {b : Nat} {l : List UInt8} {w : World} (h : BldF b l w) : ∃ c, w.heap[b]? = some (.cells c 94 (0, 0)) := by
 rcases h with ⟨_, v, h2, _⟩ | ⟨_, v, h2, _⟩ <;> exact ⟨_, h2⟩
def SB (w : World) (b x : Nat) : Prop := x = b ∨ ∃ c f, w.heap[x]? = some (Obj.cells c 5 f)
theorem writeF_any (b : Nat) (l : List UInt8) (s : ByteArray) (w : World) (h : BldF b l w) (hlen : l.length + s.size ≤ 4294967296) :
  Calls Tryz.prog 50 #[.pointer (some ⟨b, 0, none⟩), .string s] w fun e w' => e = .returned (.tuple #[.int .i64 s.size, .nilIface]) ∧ BldF b (l ++ bl s) w' ∧ Below b w w' ∧ Fr (SB w b) w w' := by
 refine (Any.Builder_WriteString_k Tryz.lays166 Tryz.Builder_Extra_166 b b _ s w h (by rw [Lib.byteCells_length]; omega) (Nat.le_of_lt h.lt)).mono ?_; rintro e w' ⟨rfl, h1, h2, h3⟩; refine ⟨rfl, Or.inr ?_, h2, ⟨h2.os, h2.tape, h2.output, h2.size, fun x hx hn => ?_⟩⟩
 ·
  rw [Lib.byteCells_append]; exact h1
 ·
  have e : w.heap[x]? = some w.heap[x] := Array.getElem?_eq_getElem hx; rw [e]; refine h3 x _ e (fun q => hn (Or.inl (by cases q; rfl))) (fun c fz q => hn (Or.inr ⟨c, fz, ?_⟩)); rw [e, q]; rfl
theorem sb_noBk {w : World} {b : Nat} {l : List UInt8} (h : BldF b l w) {x : Nat} (hx : SB w b x) : NoBk w x := by
 intro c t f e; rcases hx with rfl | ⟨c', f', q⟩
 ·
  obtain ⟨c', q⟩ := h.box; rw [e] at q; cases q; exact Or.inr rfl
 ·
  rw [e] at q; cases q; exact Or.inl rfl
structure SI (w W : World) (P b : Nat) (B : Bk) (l : List UInt8) : Prop where
 bk : BkVar W w.heap.size P B
 out : BldF b l W
 bel : Below w.heap.size w W
 low : w.heap.size ≤ P
theorem SI.lt {w W : World} {P b : Nat} {B : Bk} {l : List UInt8} (h : SI w W P b B l) : P < W.heap.size := by
 obtain ⟨_, _, _, _, _, _, _, h1, _⟩ := h.bk; exact (Array.getElem?_eq_some_iff.1 h1).1
theorem SI.below {w W W' : World} {P b : Nat} {B : Bk} {l : List UInt8} (h : SI w W P b B l) (hb : Below W.heap.size W W') : SI w W' P b B l :=
 ⟨h.bk.below hb, h.out.fr (Fr.of_below (S := fun _ => False) hb) (fun _ e => e.elim), h.bel.trans (hb.mono h.bel.size), h.low⟩
theorem SI.grown {w W W' : World} {P b : Nat} {B : Bk} {l : List UInt8} {row : Option Nat} (h : SI w W P b B l) (hg : W.grownBy W' row) (hr : ∀ r, row = some r → w.heap.size ≤ r ∧ ∃ o : Obj, W.heap[r]? = some o ∧ o.isCells = false) : SI w W' P b B l := by
 have f1 : Fr (fun x => row = some x) W W' := ⟨hg.os, hg.tape, hg.output, hg.size, fun j hj hn => hg.block j hj (fun e => hn e.symm)⟩
 have no : ∀ x, row = some x → ∀ c t f, ¬ W.heap[x]? = some (Obj.cells c t f) := fun x e c t f q => by
  obtain ⟨_, o, h1, h2⟩ := hr x e; rw [q] at h1; cases h1; cases h2
 exact ⟨bkVar_fr3 h.bk f1 (fun x e c t f q => absurd q (no x e c t f)), h.out.fr f1 (fun x e c t f q => absurd q (no x e c t f)), h.bel.grown hg h.bel.size (fun k e => (hr k e).1), h.low⟩
theorem SI.write {w W W' : World} {P b : Nat} {B : Bk} {l l' : List UInt8} (h : SI w W P b B l) (hb : w.heap.size ≤ b) (h1 : BldF b l' W') (h2 : Below b W W') (h3 : Fr (SB W b) W W') : SI w W' P b B l' :=
 ⟨bkVar_fr3 h.bk h3 (fun _ e => sb_noBk h.out e), h1, h.bel.trans (h2.mono hb), h.low⟩
theorem SI.put {w W : World} {P b : Nat} {B B' : Bk} {l : List UInt8} (h : SI w W P b B l) {ao al ac : Option Addr} {co cl cc : Nat} {K : Blk} (hO : OwnBook W w.heap.size (.agg #[.int .i64 B'.n, .slice ao B'.orders.length co, .slice al B'.locked.length cl, .slice ac B'.occ.length cc]) B' K) :
  SI w (put4 W P (.int .i64 B'.n) (.slice ao B'.orders.length co) (.slice al B'.locked.length cl) (.slice ac B'.occ.length cc)) P b B' l := by
 have hP := h.lt; have hlow := h.low; obtain ⟨_, _, _, _, _, _, _, h1, _⟩ := h.bk; have f4 := put4_fr W P (.int .i64 B'.n) (.slice ao B'.orders.length co) (.slice al B'.locked.length cl) (.slice ac B'.occ.length cc); have p4 := put4_box h1 (.int .i64 B'.n) (.slice ao B'.orders.length co) (.slice al B'.locked.length cl) (.slice ac B'.occ.length cc)
 have no : ∀ x, bookBlocks B' K x → x ≠ P := fun x hx e => by
  obtain ⟨c, t, f, q, -, -, q3⟩ := book_types hO hx; subst e; rw [h1] at q; cases q; exact q3 rfl
 refine ⟨⟨ao, co, al, cl, ac, cc, K, p4, hO.fr f4 (fun x hx e => no x hx e), no⟩, h.out.fr f4 (fun x e c t f q => ?_), h.bel.trans (f4.below (by omega) (fun i e => by omega)), h.low⟩; subst e; rw [h1] at q; cases q; exact ⟨by decide, by decide⟩
theorem keeps_below {W W' : World} (hb : Below W.heap.size W W') : KeepsOthers W W' := ⟨hb.size, fun k _ hk _ => (hb.block k (Array.getElem?_eq_some_iff.1 hk).1).trans hk⟩
theorem keeps_write {W W' : World} {b : Nat} {l : List UInt8} (h : BldF b l W) (hf : Fr (SB W b) W W') : KeepsOthers W W' :=
 ⟨hf.size, fun k o hk ho => (hf.block k (Array.getElem?_eq_some_iff.1 hk).1 (fun e => by
  rcases e with rfl | ⟨c, f, q⟩
  ·
   obtain ⟨c, q⟩ := h.box; rw [hk] at q; cases q; cases ho
  ·
   rw [hk] at q; cases q
   cases ho)).trans hk⟩
theorem keeps_put4 (W : World) (P : Nat) (a b c d : Value) : KeepsOthers W (put4 W P a b c d) :=
 (((KeepsOthers.setCell _ _ _).trans (KeepsOthers.setCell _ _ _)).trans (KeepsOthers.setCell _ _ _)).trans (KeepsOthers.setCell _ _ _)
end Go.Proofs.YtdlaekjofgbjcaaGreatDoor
/-
 The contract of impl.Answer. Mine, by program (wip/ians.py), by template (wip/gen.py).
-/
namespace Go.Proofs.YtdlaekjofgbjcaaGreatDoor
open Go.RowKit Go.Shelf
attribute [local go_sem] Oper.semAt_some
set_option maxRecDepth 100000 in
set_option maxHeartbeats 8000000 in
theorem implAnswer_any (A : Nat → Addr) (n : Int) (s : ByteArray) (w : World) (hs : s.size ≤ 1048576) (hE : Env w A) :
  Calls Tryz.prog 18 #[.int .i64 n, .string s] w fun e w' => RetA e n (bl s) ∧ Below w.heap.size w w' := by
 have hbl : (bl s).length = s.size := bl_size s; have HE : Hid (Env w A) := hE; have hG := hE.sz; clear hE; refine (callsIn_wide (n := 3)).1 ?_; refine callsIn_of_wp_marks Tryz.func18 rfl trivial ?_ rfl; simp only [Tryz.ntmps18, List.size_toArray, List.length_cons, List.length_nil, Nat.reduceAdd, Nat.reduceSub, Array.replicate_succ, Array.replicate_zero, List.push_toArray, List.append_toArray, List.nil_append, List.cons_append]
 gi_wp2_with fail
 refine ⟨trivial, ?_⟩; refine (callsIn_wide.2 (sectionCountOk_any n w)).mono ?_; rintro e w' ⟨⟨ok, rfl, hok⟩, hw'⟩; subst w'
 by_cases hn : In n 1 60
 case neg =>
  obtain rfl : ok = false := by
   cases ok
   · rfl
   · exact absurd (hok.1 rfl) hn
  clear hok
  gi_wp2
  exact ⟨_, results_tmp rfl _ _ _, ⟨⟨#[]⟩, rfl, by unfold ansP; rw [if_neg (fun q => hn q.1)]; rfl⟩, Below.refl _ _⟩
 obtain rfl : ok = true := hok.2 hn; clear hok
 by_cases hl : s.size ≤ 65536
 case neg =>
  have tl : decide ((65536 : Int) < (s.size : Int)) = true := decide_eq_true (by omega)
  gi_wp2
  exact ⟨_, results_tmp rfl _ _ _, ⟨⟨#[]⟩, rfl, by unfold ansP; rw [if_neg (fun q => by have := q.2; omega)]; rfl⟩, Below.refl _ _⟩
 have tl : decide ((65536 : Int) < (s.size : Int)) = false := decide_eq_false (by omega)
 gi_wp2_with fail
 refine ⟨trivial, ?_⟩; refine (callsIn_wide.2 (implBegin_any n w)).mono ?_; rintro e w1 ⟨v, rfl, ⟨K, hO⟩, hb1⟩; obtain ⟨a0, c0, a1, c1, a2, c2, hv, -⟩ := hO.shape; subst hv; have HO : Hid (OwnBook w1 w.heap.size (.agg #[.int .i64 (beginBk n).n, .slice a0 (beginBk n).orders.length c0, .slice a1 (beginBk n).locked.length c1, .slice a2 (beginBk n).occ.length c2]) (beginBk n) K ∧ Below w.heap.size w w1) := ⟨hO, hb1⟩; clear hO hb1
 gi_wp2_with fail
 refine ⟨trivial, ?_⟩; refine (callsIn_wide.2 (lines_any s _)).mono ?_; rintro e w2 ⟨rfl, hw2⟩; subst w2; clear tl
 gi_wp2
 obtain ⟨P, hP⟩ : ∃ P, w1.heap.size = P := ⟨_, rfl⟩; obtain ⟨W0, hW0⟩ : ∃ W, ((w1.alloc (.cells #[.int .i64 (beginBk n).n, .slice a0 (beginBk n).orders.length c0, .slice a1 (beginBk n).locked.length c1, .slice a2 (beginBk n).occ.length c2] 37)).alloc (.cells #[.pointer none, .slice none 0 0] 94)).alloc (.cells #[.string s] 9) = W := ⟨_, rfl⟩; have hsz0 : W0.heap.size = P + 3 := by rw [← hW0, ← hP]; simp
 have zP : w.heap.size ≤ P := by rw [← hP]; exact HO.out.2.size
 have hx0 : W0.cell? ⟨P + 1 + 1, 0, none⟩ = some (.string s) := by
  have q : W0.heap[P + 1 + 1]? = some (.cells #[.string s] 9 (0, 0)) := by
   have := Deep.blk_alloc_new ((w1.alloc (.cells #[.int .i64 (beginBk n).n, .slice a0 (beginBk n).orders.length c0, .slice a1 (beginBk n).locked.length c1, .slice a2 (beginBk n).occ.length c2] 37)).alloc (.cells #[.pointer none, .slice none 0 0] 94)) (.cells #[.string s] 9); rw [hW0] at this; simp only [World.size_alloc, hP] at this; exact this
  exact cell_of_box q rfl
 have S0 : Hid (SI w W0 P (P + 1) (beginBk n) []) := by
  have b1 := below1 w1 (.cells #[.int .i64 (beginBk n).n, .slice a0 (beginBk n).orders.length c0, .slice a1 (beginBk n).locked.length c1, .slice a2 (beginBk n).occ.length c2] 37); have b2 := below1 (w1.alloc (.cells #[.int .i64 (beginBk n).n, .slice a0 (beginBk n).orders.length c0, .slice a1 (beginBk n).locked.length c1, .slice a2 (beginBk n).occ.length c2] 37)) (.cells #[.pointer none, .slice none 0 0] 94); have b3 := below1 ((w1.alloc (.cells #[.int .i64 (beginBk n).n, .slice a0 (beginBk n).orders.length c0, .slice a1 (beginBk n).locked.length c1, .slice a2 (beginBk n).occ.length c2] 37)).alloc (.cells #[.pointer none, .slice none 0 0] 94)) (.cells #[.string s] 9); have f1 := BldF.fresh (w1.alloc (.cells #[.int .i64 (beginBk n).n, .slice a0 (beginBk n).orders.length c0, .slice a1 (beginBk n).locked.length c1, .slice a2 (beginBk n).occ.length c2] 37)); rw [World.size_alloc, hP] at f1
  have s1 : SI w ((w1.alloc (.cells #[.int .i64 (beginBk n).n, .slice a0 (beginBk n).orders.length c0, .slice a1 (beginBk n).locked.length c1, .slice a2 (beginBk n).occ.length c2] 37)).alloc (.cells #[.pointer none, .slice none 0 0] 94)) P (P + 1) (beginBk n) [] :=
   ⟨BkVar.below ⟨a0, c0, a1, c1, a2, c2, K, hP ▸ Deep.blk_alloc_new _ _, HO.out.1.below b1, fun b hb e => by have := HO.out.1.blocks_lt hb; omega⟩ b2, f1, (HO.out.2.trans (b1.mono HO.out.2.size)).trans (b2.mono (by rw [World.size_alloc]; have := HO.out.2.size; omega)), zP⟩
  rw [← hW0]; exact s1.below b3
 obtain ⟨m, hm⟩ := HE.out.gl.ml; have hm0 : W0.cell? ⟨9, 0, none⟩ = some (.int .i64 m) := (S0.out.bel.cell (p := ⟨9, 0, none⟩) (World.block_lt_of_cell? _ _ hm)).trans hm; rw [hW0, hP]; clear hW0 hP HO hm; have hnl := linesOf_len (bl s)
 refine wpIn_rangeFunc_ownG rfl (by omega) (gf := 76) (lb := #[.pointer (some ⟨P + 1 + 1, 0, none⟩)]) rfl trivial (enters_of Tryz.func76 (by kernel_rfl) rfl)
  (lines1_stops Fence.wide (3 - 1) trivial trivial rfl (by omega) (fun s m w h1 h2 => callsIn_wide.2 (Tryz.strings_Cut s ⟨#[10]⟩ m w h1 h2)) (P + 1 + 1) w.heap.size s m W0 hl hG (by omega) hx0 hm0) belowK_t (belowK_b (by omega)) (Below.refl _ _) (fun _ => rfl)
  (fun pre W => SI w W P (P + 1) (foldP (beginBk n) (pre.map lnL)).2 (foldP (beginBk n) (pre.map lnL)).1)
  (fun _ _ _ => False)
  (fun _ _ _ _ hs hg hr => hs.grown hg (fun r e => ⟨by have := (hr r e).1; omega, (hr r e).2⟩))
  (fun _ _ _ _ _ hs _ _ => hs)
  S0.out
  (fun x => { tmps := #[.int .i64 n, .string s, undef, undef, .string ⟨#[]⟩, .pointer (some ⟨P, 0, none⟩), .pointer (some ⟨P + 1, 0, none⟩), .string x.1, undef, undef, .int .i64 n, .bool true, .bool false, .bool false, .string s, .int .i64 (s.size : Int), .bool false, .bool false, .int .i64 n, (.agg #[.int .i64 (beginBk n).n, .slice a0 (beginBk n).orders.length c0, .slice a1 (beginBk n).locked.length c1, .slice a2 (beginBk n).occ.length c2]), .string s, .func (.func 76) #[] #[.pointer (some ⟨P + 1 + 1, 0, none⟩)], .string x.1, undef, undef, undef, undef, undef, undef, undef, undef, undef, undef, undef], defers := [] }) ?assign ?body ?done ?stop
 case assign =>
  intro l x W K hK
  gi_wp2
  exact hK
 case stop =>
  rintro D c pre W _ _ h _; exact h.elim
 case done =>
  rintro D ys W hD hS hI hK; have HI : Hid (SI w W P (P + 1) (foldP (beginBk n) (ys.map lnL)).2 (foldP (beginBk n) (ys.map lnL)).1) := hI; have HK : Hid (W.heap[D]? = some (.deferred (some [])) ∧ ys.map lnL = linesOf (bl s)) := ⟨hK, hS⟩; clear hI hK hS
  gi_wp2_with fail
  refine ⟨trivial, ?_⟩; refine (callsIn_wide.2 (Tryz.Builder_String_any_k (P + 1) (P + 1) (foldP (beginBk n) (ys.map lnL)).1 W HI.out.out (Nat.le_of_lt HI.out.out.lt))).mono ?_; rintro e w7 ⟨rfl, -, hb7, hk7⟩; have hK7 : w7.heap[D]? = some (.deferred (some [])) := hk7 D _ HK.out.1 (fun e => by cases e; omega) (fun _ _ e => by cases e); have HB7 : Hid (Below w.heap.size w w7) := HI.out.bel.trans (hb7.mono (by omega)); clear hb7 hk7
  gi_wp2
  refine ⟨by simp, .inl ⟨_, _, rfl, run_takeDeferred hK7, ?_⟩⟩; refine ⟨_, results_tmp rfl _ _ _, ⟨_, rfl, ?_⟩, HB7.out.trans (belowK_b (w := w) (Nat.le_refl _) w7 D _ _ (by omega) hK7 rfl rfl)⟩; rw [bl_mk, HK.out.2]; unfold ansP; rw [if_pos ⟨hn, by omega⟩]
 case body =>
  rintro l pre x W hSI hlt; obtain ⟨B, hB⟩ : ∃ B, (foldP (beginBk n) (pre.map lnL)).2 = B := ⟨_, rfl⟩; obtain ⟨L, hL⟩ : ∃ L, (foldP (beginBk n) (pre.map lnL)).1 = L := ⟨_, rfl⟩; have HR : Hid (Right B) := hB ▸ right_foldP (right_start hn) _
  have hLl : L.length ≤ 400 * pre.length := by
   have := foldP_len (beginBk n) (pre.map lnL); rw [hL, List.length_map] at this; exact this
  obtain ⟨R, hR⟩ : ∃ R, replyP B (bl x.1) = R := ⟨_, rfl⟩; have HRl : Hid (R.1.length ≤ 399) := hR ▸ reply_len B (bl x.1)
  have HSn : Hid (foldP (beginBk n) ((pre ++ [x]).map lnL) = (L ++ R.1 ++ [10], R.2)) := by
   show foldP (beginBk n) ((pre ++ [x]).map lnL) = _
   rw [List.map_append]; show foldP (beginBk n) (pre.map lnL ++ [bl x.1]) = _
   rw [foldP_snoc, hB, hL, hR]
  have SK : Hid (SI w W P (P + 1) B L) := by
   have := hSI; rw [hB, hL] at this; exact this
  clear hSI hB hL S0 hx0 hm0; obtain ⟨ao, co, al, cl, ac, cc, KB, xP, hOB, -⟩ := SK.out.bk
  have HRp : Hid (Calls Tryz.prog 49 #[(.agg #[.int .i64 B.n, .slice ao B.orders.length co, .slice al B.locked.length cl, .slice ac B.occ.length cc]), .string x.1] W fun e w' => RetRp e w' w.heap.size R ∧ Below W.heap.size W w') := by
   have := reply_any A x.1 _ B KB w.heap.size W (by have := x.2; omega) (HE.out.below SK.out.bel) HR.out hOB SK.out.bel.size; rw [hR] at this; exact this
  have p0 : W.cell? ⟨P, 0, none⟩ = some (.int .i64 B.n) := cell_of_box xP rfl; have p1 : W.cell? ⟨P, 1, none⟩ = some (.slice ao B.orders.length co) := cell_of_box xP rfl; have p2 : W.cell? ⟨P, 2, none⟩ = some (.slice al B.locked.length cl) := cell_of_box xP rfl; have p3 : W.cell? ⟨P, 3, none⟩ = some (.slice ac B.occ.length cc) := cell_of_box xP rfl; have zW := SK.out.lt; clear xP hOB hR
  gi_wp2_with fail
  refine ⟨trivial, ?_⟩; refine (CallsIn.inRound l (callsIn_wide.2 HRp.out)).mono ?_; rintro e w4 ⟨⟨t, v, K', rfl, ht, hO4⟩, hb4⟩; obtain ⟨a7, c7, l7, d7, o7, f7, hv7, -⟩ := hO4.shape; subst hv7; have HT : Hid (bl t = R.1) := ht; have htb : t.size ≤ 1000 := by rw [← bl_size, ht]; have := HRl.out; omega
  have z4 : W.heap.size ≤ w4.heap.size := hb4.size; have S4 : Hid (SI w w4 P (P + 1) B L ∧ OwnBook w4 w.heap.size (.agg #[.int .i64 R.2.n, .slice a7 R.2.orders.length c7, .slice l7 R.2.locked.length d7, .slice o7 R.2.occ.length f7]) R.2 K' ∧ Below W.heap.size W w4) := ⟨SK.out.below hb4, hO4, hb4⟩; clear ht hO4 hb4 HRp p0 p1 p2 p3; obtain ⟨W5, hW5⟩ : ∃ Y, Y = w4.alloc (.cells #[.int .i64 R.2.n, .slice a7 R.2.orders.length c7, .slice l7 R.2.locked.length d7, .slice o7 R.2.occ.length f7] 37) := ⟨_, rfl⟩
  have S5 : Hid (SI w W5 P (P + 1) B L ∧ OwnBook W5 w.heap.size (.agg #[.int .i64 R.2.n, .slice a7 R.2.orders.length c7, .slice l7 R.2.locked.length d7, .slice o7 R.2.occ.length f7]) R.2 K' ∧ W5.heap[w4.heap.size]? = some (.cells #[.int .i64 R.2.n, .slice a7 R.2.orders.length c7, .slice l7 R.2.locked.length d7, .slice o7 R.2.occ.length f7] 37 (0, 0)) ∧ Below W.heap.size W W5 ∧ w4.heap.size < W5.heap.size) := by
   rw [hW5]; have bb := below1 w4 (.cells #[.int .i64 R.2.n, .slice a7 R.2.orders.length c7, .slice l7 R.2.locked.length d7, .slice o7 R.2.occ.length f7] 37); exact ⟨S4.out.1.below bb, S4.out.2.1.below bb, Deep.blk_alloc_new _ _, S4.out.2.2.trans (bb.mono z4), by simp⟩
  have hW5' : w4.alloc (.cells #[.int .i64 R.2.n, .slice a7 R.2.orders.length c7, .slice l7 R.2.locked.length d7, .slice o7 R.2.occ.length f7] 37) = W5 := hW5.symm; clear hW5; have z5 := S5.out.2.2.2.2; have hts : (t ++ ⟨#[10]⟩ : ByteArray).size = t.size + 1 := by rw [ByteArray.size_append]; rfl
  have HWr : Hid (Calls Tryz.prog 50 #[.pointer (some ⟨P + 1, 0, none⟩), .string (t ++ ⟨#[10]⟩)] W5 fun e w' => e = .returned (.tuple #[.int .i64 (t ++ ⟨#[10]⟩ : ByteArray).size, .nilIface]) ∧ BldF (P + 1) (L ++ bl (t ++ ⟨#[10]⟩)) w' ∧ Below (P + 1) W5 w' ∧ Fr (SB W5 (P + 1)) W5 w') := writeF_any (P + 1) L (t ++ (⟨#[10]⟩ : ByteArray)) W5 S5.out.1.out (by omega); clear hts
  gi_wp2_with fail
  try rw [hW5']
  clear hW5'; refine ⟨trivial, ?_⟩; refine (CallsIn.inRound l (callsIn_wide.2 HWr.out)).mono ?_; rintro e w6 ⟨rfl, h1, h2, h3⟩; have z6 : W5.heap.size ≤ w6.heap.size := h2.size
  have S6 : Hid (SI w w6 P (P + 1) B (L ++ bl (t ++ ⟨#[10]⟩)) ∧ OwnBook w6 w.heap.size (.agg #[.int .i64 R.2.n, .slice a7 R.2.orders.length c7, .slice l7 R.2.locked.length d7, .slice o7 R.2.occ.length f7]) R.2 K' ∧ w6.heap[w4.heap.size]? = some (.cells #[.int .i64 R.2.n, .slice a7 R.2.orders.length c7, .slice l7 R.2.locked.length d7, .slice o7 R.2.occ.length f7] 37 (0, 0)) ∧ Below w.heap.size W w6 ∧ KeepsOthers W w6) :=
   ⟨S5.out.1.write (by omega) h1 h2 h3, ownBook_fr3 S5.out.2.1 h3 (fun _ e => sb_noBk S5.out.1.out e), (h3.block _ z5 (fun e => by
    rcases sb_noBk S5.out.1.out e _ _ _ S5.out.2.2.1 with q | q
    · exact absurd q (by decide)
    · exact absurd q (by decide))).trans S5.out.2.2.1, (S5.out.2.2.2.1.mono SK.out.bel.size).trans (h2.mono (by omega)), (keeps_below S5.out.2.2.2.1).trans (keeps_write S5.out.1.out h3)⟩
  clear h1 h2 h3 HWr; obtain ⟨ao, co, al, cl, ac, cc, KB, xP, -, -⟩ := S6.out.1.bk; have p0 : w6.cell? ⟨P, 0, none⟩ = some (.int .i64 B.n) := cell_of_box xP rfl; have p1 : w6.cell? ⟨P, 1, none⟩ = some (.slice ao B.orders.length co) := cell_of_box xP rfl; have p2 : w6.cell? ⟨P, 2, none⟩ = some (.slice al B.locked.length cl) := cell_of_box xP rfl; have p3 : w6.cell? ⟨P, 3, none⟩ = some (.slice ac B.occ.length cc) := cell_of_box xP rfl; have f0 : w6.frozen? ⟨P, 0, none⟩ = false := frozen_of_box xP; have f1 : w6.frozen? ⟨P, 1, none⟩ = false := frozen_of_box xP; have f2 : w6.frozen? ⟨P, 2, none⟩ = false := frozen_of_box xP; have f3 : w6.frozen? ⟨P, 3, none⟩ = false := frozen_of_box xP; have q0 : w6.cell? ⟨w4.heap.size, 0, none⟩ = some (.int .i64 R.2.n) := cell_of_box S6.out.2.2.1 rfl; have q1 : w6.cell? ⟨w4.heap.size, 1, none⟩ = some (.slice a7 R.2.orders.length c7) := cell_of_box S6.out.2.2.1 rfl; have q2 : w6.cell? ⟨w4.heap.size, 2, none⟩ = some (.slice l7 R.2.locked.length d7) := cell_of_box S6.out.2.2.1 rfl; have q3 : w6.cell? ⟨w4.heap.size, 3, none⟩ = some (.slice o7 R.2.occ.length f7) := cell_of_box S6.out.2.2.1 rfl; clear xP
  gi_wp2
  have HF : Hid (SI w (put4 w6 P (.int .i64 R.2.n) (.slice a7 R.2.orders.length c7) (.slice l7 R.2.locked.length d7) (.slice o7 R.2.occ.length f7)) P (P + 1) (foldP (beginBk n) ((pre ++ [x]).map lnL)).2 (foldP (beginBk n) ((pre ++ [x]).map lnL)).1) := by
   show SI w _ P (P + 1) _ _
   rw [HSn.out]; have := S6.out.1.put S6.out.2.1; rw [bl_append, HT.out, ← List.append_assoc] at this; exact this
  exact ⟨(S6.out.2.2.2.2.trans (keeps_put4 w6 P (.int .i64 R.2.n) (.slice a7 R.2.orders.length c7) (.slice l7 R.2.locked.length d7) (.slice o7 R.2.occ.length f7))).from _, S6.out.2.2.2.1.trans ((put4_fr w6 P (.int .i64 R.2.n) (.slice a7 R.2.orders.length c7) (.slice l7 R.2.locked.length d7) (.slice o7 R.2.occ.length f7)).below (by omega) (fun i e => by omega)), HF.out⟩
end Go.Proofs.YtdlaekjofgbjcaaGreatDoor
