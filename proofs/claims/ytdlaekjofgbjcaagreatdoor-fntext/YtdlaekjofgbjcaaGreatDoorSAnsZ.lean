import Derived.Test.YtdlaekjofgbjcaaGreatDoorAnsY
import Derived.Test.YtdlaekjofgbjcaaGreatDoorHearFZ
import Derived.Test.YtdlaekjofgbjcaaGreatDoorSDoZ
import Derived.Laws.BytesArg
import Derived.Deep.Cut
/-
 The contract of spec.Answer. Mine, by program (wip/sans.py), by template (wip/gen.py).
-/
namespace Go.Proofs.YtdlaekjofgbjcaaGreatDoor
open Go.RowKit
noncomputable def ansP (n : Int) (l : List UInt8) : List UInt8 := if (1 ≤ n ∧ n ≤ 60) ∧ l.length ≤ 65536 then (foldP (beginBk n) (linesOf l)).1 else []
def RetA (e : Ending) (n : Int) (l : List UInt8) : Prop := ∃ t, e = .returned (.string t) ∧ bl t = ansP n l
theorem begin_nz {n : Int} : ((beginBk n).n = 0 ↔ ¬ (1 ≤ n ∧ n ≤ 60)) := by
 unfold beginBk; split
 · next h => exact ⟨fun e => absurd (show n = 0 from e) (by omega), fun e => absurd h e⟩
 · next h => exact ⟨fun _ => h, fun _ => rfl⟩
theorem conv_own {w : World} {lo : Nat} {u : Value} {l : List UInt8} (h : w.ownsRow lo 5 1 u l.length (Lib.byteCells l)) : (convert 22 9 u).run Tryz.prog w = .ok (.string (mkB l)) w := by
 obtain ⟨h1, h2⟩ := h; rcases h2 with ⟨rfl, h0⟩ | ⟨g, cap, cur, rfl, h3, h4, h5, h6, h7, h8⟩
 ·
  obtain rfl : l = [] := List.length_eq_zero_iff.1 h0; exact run_convert_bytes_nil (w := w) 22 5 Tryz.underlying22 Tryz.underlying5 0 0 9 Tryz.underlying9
 ·
  refine run_convert_bytes_back w 22 9 5 ⟨g, 0, none⟩ cap l Tryz.underlying22 Tryz.underlying5 Tryz.underlying9 (fun j hj => ?_); rw [add0]; refine cell_of_box h4 ?_; have e : (cur.toList.take (l.length * 1))[j]? = (Lib.byteCells l)[j]? := by rw [h8]
  rw [List.getElem?_take, if_pos (by omega)] at e; rw [← Array.getElem?_toList, e]; simp [Lib.byteCells, hj]
structure ST (w wr : World) (P : Nat) (u : Value) (B : Bk) (l : List UInt8) : Prop where
 bk : BkVar wr w.heap.size P B
 out : wr.ownsRow (P + 1) 5 1 u l.length (Lib.byteCells l)
 bel : Below w.heap.size w wr
 low : w.heap.size ≤ P
theorem ST.sz {w wr : World} {P : Nat} {u : Value} {B : Bk} {l : List UInt8} (h : ST w wr P u B l) : P < wr.heap.size := by
 obtain ⟨_, _, _, _, _, _, _, h1, _⟩ := h.bk; exact (Array.getElem?_eq_some_iff.1 h1).1
theorem ST.below {w wr w' : World} {P : Nat} {u : Value} {B : Bk} {l : List UInt8} (h : ST w wr P u B l) (hb : Below wr.heap.size wr w') : ST w w' P u B l :=
 ⟨h.bk.below hb, ownsRow_below h.out hb, h.bel.trans (hb.mono (Nat.le_trans h.low (Nat.le_of_lt h.sz))), h.low⟩
theorem ST.push {w wr w' : World} {P : Nat} {u u' : Value} {B : Bk} {l : List UInt8} (h : ST w wr P u B l) (t : ByteArray) (h2 : w'.ownsRow (P + 1) 5 1 u' (l.length + t.size) (Lib.byteCells l ++ Lib.strCells t)) (hg : wr.grownBy w' u.ownBlock) : ST w w' P u' B (l ++ bl t) := by
 have f1 : Fr (fun x => u.ownBlock = some x) wr w' := ⟨hg.os, hg.tape, hg.output, hg.size, fun j hj hn => hg.block j hj (fun e => hn e.symm)⟩; have hP := h.sz; have hlow := h.low; refine ⟨h.bk.fr f1 (fun b e => ?_), ?_, h.bel.trans (f1.below (by omega) (fun i e => by have := (owns_lt h.out e).1; omega)), h.low⟩
 ·
  obtain ⟨h1, q⟩ := h.out; rcases q with ⟨rfl, _⟩ | ⟨g, cap, cur, rfl, _, hh, _⟩
  · cases e
  ·
   simp only [Value.ownBlock, Option.some.injEq] at e; subst e; exact ⟨_, _, hh⟩
 ·
  have e1 : (l ++ bl t).length = l.length + t.size := by rw [List.length_append, bl_size]
  have e2 : Lib.byteCells (l ++ bl t) = Lib.byteCells l ++ Lib.strCells t := by simp [Lib.byteCells, Lib.strCells, bl]
  rw [e1, e2]; exact h2
theorem ST.put {w wr : World} {P : Nat} {u : Value} {B B' : Bk} {l : List UInt8} (h : ST w wr P u B l) {ao al ac : Option Addr} {co cl cc lo : Nat} {K : Blk} (hO : OwnBook wr lo (.agg #[.int .i64 B'.n, .slice ao B'.orders.length co, .slice al B'.locked.length cl, .slice ac B'.occ.length cc]) B' K) (hl : P < lo) :
  ST w (put4 wr P (.int .i64 B'.n) (.slice ao B'.orders.length co) (.slice al B'.locked.length cl) (.slice ac B'.occ.length cc)) P u B' l := by
 have hP := h.sz; have hlow := h.low; obtain ⟨_, _, _, _, _, _, _, h1, _⟩ := h.bk; have f4 := put4_fr wr P (.int .i64 B'.n) (.slice ao B'.orders.length co) (.slice al B'.locked.length cl) (.slice ac B'.occ.length cc); have p4 := put4_box h1 (.int .i64 B'.n) (.slice ao B'.orders.length co) (.slice al B'.locked.length cl) (.slice ac B'.occ.length cc)
 exact ⟨⟨ao, co, al, cl, ac, cc, K, p4, (hO.fr f4 (fun b hb e => by have := hO.blocks_low hb; omega)).mono (by omega), fun b hb e => by have := hO.blocks_low hb; omega⟩,
  owns_of_block h.out (fun g hg => f4.block g (owns_lt h.out hg).2 (by have := (owns_lt h.out hg).1; omega)), h.bel.trans (f4.below (by omega) (fun i e => by omega)), h.low⟩
theorem line_over {s : ByteArray} {a k : Nat} (h1 : a ≤ k) (h2 : k ≤ s.size) (hno : ∀ j, a ≤ j → j < k → chr s j ≠ 10) (hk : k < s.size → chr s k = 10) :
  linesOf ((bl s).drop a) = (if bl (s.extract a k) = [] then [] else [bl (s.extract a k)]) ++ linesOf ((bl s).drop (k + 1)) := by
 have hn : ∀ b ∈ bl (s.extract a k), b ≠ 10 := fun b hb e => by
  rw [bl_extract] at hb; obtain ⟨i, hi, rfl⟩ := List.getElem_of_mem hb; have hi2 : i < k - a := by simp only [List.length_take] at hi; omega
  rw [List.getElem_take, List.getElem_drop] at e; have hk2 : a + i < (bl s).length := by rw [bl_size]; omega
  have ec : chr s (a + i) = ((bl s)[a + i]).toNat := by
   unfold chr; have e : s.data.toList[a + i]? = some ((bl s)[a + i]) := List.getElem?_eq_getElem hk2; rw [List.getD_eq_getElem?_getD, e]; rfl
  refine hno (a + i) (by omega) (by omega) ?_; rw [ec, e]; rfl
 have e : (bl s).drop a = bl (s.extract a k) ++ (bl s).drop k := by
  rw [bl_extract]; have := (List.take_append_drop (k - a) ((bl s).drop a)).symm; rw [List.drop_drop, show a + (k - a) = k by omega] at this; exact this
 by_cases hlt : k < s.size
 ·
  obtain ⟨b, e1, e2, -⟩ := drop_chr s k hlt
  have hb : b = 10 := by
   have := hk hlt; rw [← e2] at this; exact UInt8.toNat_inj.1 this
  rw [e, e1, hb, linesOf_hit hn]
 ·
  have e3 : (bl s).drop k = [] := List.drop_eq_nil_of_le (by rw [bl_size]; omega); have e4 : (bl s).drop (k + 1) = [] := List.drop_eq_nil_of_le (by rw [bl_size]; omega); rw [e, e3, e4, List.append_nil, linesOf_end hn, linesOf_nil, List.append_nil]
end Go.Proofs.YtdlaekjofgbjcaaGreatDoor
/-
 The contract of spec.Answer. Mine, by program (wip/sans2.py), by template (wip/gen.py).
-/
namespace Go.Proofs.YtdlaekjofgbjcaaGreatDoor
open Go.RowKit
set_option maxRecDepth 20000 in
set_option maxHeartbeats 16000000 in
theorem specAnswer_any (n : Int) (s : ByteArray) (w : World) (hs : s.size ≤ 1048576) :
  Calls Tryz.prog 19 #[.int .i64 n, .string s] w fun e w' => RetA e n (bl s) ∧ Below w.heap.size w w' := by
 have hbl : (bl s).length = s.size := bl_size s
 go_enter Tryz.func19, Tryz.ntmps19
 go_wp2_with fail
 refine (specBegin_any n w).mono ?_; rintro e w1 ⟨v, rfl, ⟨K, hO⟩, hb1⟩; obtain ⟨a0, c0, a1, c1, a2, c2, hv, -⟩ := hO.shape; subst hv; obtain ⟨W1, hW1⟩ : ∃ W, W = w1.alloc (.cells #[.int .i64 (beginBk n).n, .slice a0 (beginBk n).orders.length c0, .slice a1 (beginBk n).locked.length c1, .slice a2 (beginBk n).occ.length c2] 37) := ⟨_, rfl⟩; have z1 : w.heap.size ≤ w1.heap.size := hb1.size
 have S1 : Hid (ST w W1 w1.heap.size (.slice none 0 0) (beginBk n) [] ∧ W1.heap[w1.heap.size]? = some (.cells #[.int .i64 (beginBk n).n, .slice a0 (beginBk n).orders.length c0, .slice a1 (beginBk n).locked.length c1, .slice a2 (beginBk n).occ.length c2] 37 (0, 0))) := by
  rw [hW1]; have bb := below1 w1 (.cells #[.int .i64 (beginBk n).n, .slice a0 (beginBk n).orders.length c0, .slice a1 (beginBk n).locked.length c1, .slice a2 (beginBk n).occ.length c2] 37); exact ⟨⟨⟨a0, c0, a1, c1, a2, c2, K, Deep.blk_alloc_new _ _, hO.below bb, fun b hb e => by have := hO.blocks_lt hb; omega⟩, World.ownsRow_nil _ _ _ _, hb1.trans (bb.mono z1), z1⟩, Deep.blk_alloc_new _ _⟩
 have hW1' : w1.alloc (.cells #[.int .i64 (beginBk n).n, .slice a0 (beginBk n).orders.length c0, .slice a1 (beginBk n).locked.length c1, .slice a2 (beginBk n).occ.length c2] 37) = W1 := hW1.symm; clear hO hb1 hW1; have p0 : W1.cell? ⟨w1.heap.size, 0, none⟩ = some (.int .i64 (beginBk n).n) := cell_of_box S1.out.2 rfl; have p1 : W1.cell? ⟨w1.heap.size, 1, none⟩ = some (.slice a0 (beginBk n).orders.length c0) := cell_of_box S1.out.2 rfl; have p2 : W1.cell? ⟨w1.heap.size, 2, none⟩ = some (.slice a1 (beginBk n).locked.length c1) := cell_of_box S1.out.2 rfl; have p3 : W1.cell? ⟨w1.heap.size, 3, none⟩ = some (.slice a2 (beginBk n).occ.length c2) := cell_of_box S1.out.2 rfl
 by_cases hn : 1 ≤ n ∧ n ≤ 60
 case neg =>
  have tn : ((beginBk n).n == 0) = true := by rw [begin_nz.2 hn]; rfl
  go_wp2; go_ret; exact ⟨⟨⟨#[]⟩, rfl, by unfold ansP; rw [if_neg (fun q => hn q.1)]; rfl⟩, S1.out.1.bel⟩
 have tn : ((beginBk n).n == 0) = false := beq_eq_false_iff_ne.2 (fun e => begin_nz.1 e hn)
 by_cases hl : s.size ≤ 65536
 case neg =>
  have tl : decide ((65536 : Int) < (s.size : Int)) = true := decide_eq_true (by omega); go_wp2; go_ret; exact ⟨⟨⟨#[]⟩, rfl, by unfold ansP; rw [if_neg (fun q => by have := q.2; omega)]; rfl⟩, S1.out.1.bel⟩
 have tl : decide ((65536 : Int) < (s.size : Int)) = false := decide_eq_false (by omega)
 have HA : Hid (ansP n (bl s) = (foldP (beginBk n) (linesOf (bl s))).1) := by
  show ansP n (bl s) = _
  unfold ansP; rw [if_pos ⟨hn, by omega⟩]
 have HR : Hid (Right (beginBk n)) := right_start hn; obtain ⟨B0, hB0⟩ : ∃ B, beginBk n = B := ⟨_, rfl⟩; rw [hB0] at HA HR
 have S2 : Hid (ST w W1 w1.heap.size (.slice none 0 0) B0 []) := by
  have := S1.out.1; rw [hB0] at this; exact this
 clear hB0; go_wp2; obtain ⟨P, hP⟩ : ∃ P, P = w1.heap.size := ⟨_, rfl⟩
 try rw [hW1']
 clear hW1' p0 p1 p2 p3 S1 tn hn; rw [← hP] at S2 ⊢; clear hP z1
 go_loopw [6, 7, 8] (fun u a i wr => ∃ (at_ k : Nat) (ls : List (List UInt8)), at_ ≤ k ∧ k ≤ s.size + 1 ∧ (k = s.size + 1 → at_ = s.size + 1) ∧ a = .int .i64 (at_ : Int) ∧ i = .int .i64 (k : Int) ∧ (∀ j, at_ ≤ j → j < k → chr s j ≠ 10) ∧ linesOf (bl s) = ls ++ linesOf ((bl s).drop at_) ∧ ls.length ≤ at_ ∧ ST w wr P u (foldP B0 ls).2 (foldP B0 ls).1) (fun _ _ i _ => s.size + 1 - (intOf i).toNat)
 case atStart => exact ⟨0, 0, [], Nat.le_refl _, by omega, fun e => by omega, rfl, rfl, fun j h1 h2 => absurd h2 (by omega), rfl, Nat.zero_le _, S2.out⟩
 case round =>
  obtain ⟨at_, k, ls, h1, h2, h3, rfl, rfl, h4, h5, h6, hST⟩ := hrel; have SK : Hid (ST w wr P u6 (foldP B0 ls).2 (foldP B0 ls).1) := hST; have H4 : Hid ((∀ j, at_ ≤ j → j < k → chr s j ≠ 10) ∧ linesOf (bl s) = ls ++ linesOf ((bl s).drop at_)) := ⟨h4, h5⟩; clear hST h4 h5 S2
  by_cases hk : k ≤ s.size
  case neg =>
   have tk : decide ((k : Int) ≤ (s.size : Int)) = false := decide_eq_false (by omega)
   have HF : Hid (ansP n (bl s) = (foldP B0 ls).1) := by
    show ansP n (bl s) = _
    have e : linesOf (bl s) = ls := by
     rw [H4.out.2, List.drop_eq_nil_of_le (by omega), linesOf_nil, List.append_nil]
    rw [HA.out, e]
   have hcv := conv_own SK.out.out; go_wp2; go_ret; exact ⟨⟨_, rfl, by rw [HF.out, bl_mkB]⟩, SK.out.bel⟩
  have tk : decide ((k : Int) ≤ (s.size : Int)) = true := decide_eq_true (by omega)
  by_cases hc : k < s.size ∧ chr s k ≠ 10
  ·
   obtain ⟨hlt, hne⟩ := hc; have tl1 : decide ((k : Int) < (s.size : Int)) = true := decide_eq_true (by omega); have hch := chr_eq s k hlt; have tc : ((s[k].toNat : Int) == 10) = false := beq_eq_false_iff_ne.2 (fun e => hne (by omega)); clear hch; have HC : Hid (chr s k ≠ 10) := hne; clear hne; go_wp2; go_roundw
   case rel =>
    refine ⟨at_, k + 1, ls, by omega, by omega, fun e => by omega, rfl, by go_num, fun j j1 j2 => ?_, H4.out.2, h6, SK.out⟩
    by_cases e : j = k
    · subst e; exact HC.out
    · exact H4.out.1 j j1 (by omega)
   case measure => simp [intOf]; omega
  have HLO : Hid (linesOf ((bl s).drop at_) = (if bl (s.extract at_ k) = [] then [] else [bl (s.extract at_ k)]) ++ linesOf ((bl s).drop (k + 1))) := line_over h1 hk H4.out.1 (fun h => by
   rcases Classical.em (chr s k = 10) with q | q
   · exact q
   · exact absurd ⟨h, q⟩ hc)
  have hsl : bl (s.extract at_ k) = ((bl s).drop at_).take (k - at_) := bl_extract s at_ k; have hll : (bl (s.extract at_ k)).length = k - at_ := by rw [hsl, List.length_take, List.length_drop]; omega
  have hsz : (s.extract at_ k).size = k - at_ := by rw [← bl_size]; exact hll
  have b0 : (0 : Int) ≤ (at_ : Int) := by omega
  have b1 : (at_ : Int) ≤ (k : Int) := by omega
  have b2 : (k : Int) ≤ (s.size : Int) := by omega
  by_cases hlt : k < s.size
  ·
   have tl1 : decide ((k : Int) < (s.size : Int)) = true := decide_eq_true (by omega); have hch := chr_eq s k hlt
   have tc : (s[k].toNat : Int) = 10 := by
    have : chr s k = 10 := by
     rcases Classical.em (chr s k = 10) with q | q
     · exact q
     · exact absurd ⟨hlt, q⟩ hc
    omega
   clear hch hc; obtain ⟨ln, hln⟩ : ∃ x, s.extract at_ k = x := ⟨_, rfl⟩; rw [hln] at HLO hsz; have hln' := hln; clear hsl hll hln
   by_cases hem : at_ = k
   ·
    have te : ln.toList.isEmpty = true := by
     rw [ByteArray.toList_eq, nil_of (show ln.size = 0 by omega)]; rfl
    have HL2 : Hid (linesOf (bl s) = ls ++ linesOf ((bl s).drop (k + 1))) := by
     show linesOf (bl s) = _
     have : bl ln = [] := List.length_eq_zero_iff.1 (by rw [bl_size]; omega); rw [H4.out.2, HLO.out, if_pos this, List.nil_append]
    clear HLO; have hem2 : Hid (at_ = k) := hem; clear hem; go_wp2; go_roundw
    case rel => exact ⟨k + 1, k + 1, ls, Nat.le_refl _, by omega, fun e => e, by go_num, by go_num, fun j j1 j2 => absurd j2 (by omega), HL2.out, by omega, SK.out⟩
    case measure => simp [intOf]; omega
   have te : ln.toList.isEmpty = false := by
    rw [ByteArray.toList_eq]; cases hx : ln.data.toList with
    | nil => exact absurd (show ln.size = 0 by rw [← bl_size]; show ln.data.toList.length = 0; rw [hx]; rfl) (by omega)
    | cons a b => rfl
   have HL2 : Hid (linesOf (bl s) = (ls ++ [bl ln]) ++ linesOf ((bl s).drop (k + 1))) := by
    show linesOf (bl s) = _
    have : ¬ bl ln = [] := fun e => by
     have h := congrArg List.length e; rw [bl_size] at h; have h2 : ln.size = 0 := h; omega
    rw [H4.out.2, HLO.out, if_neg this, List.append_assoc]
   clear HLO; obtain ⟨B, hB⟩ : ∃ B, (foldP B0 ls).2 = B := ⟨_, rfl⟩; obtain ⟨l, hl2⟩ : ∃ l, (foldP B0 ls).1 = l := ⟨_, rfl⟩; have HRB : Hid (Right B) := hB ▸ right_foldP HR.out ls; have hlb : l.length ≤ 400 * ls.length := hl2 ▸ foldP_len B0 ls
   have HSn : Hid (foldP B0 (ls ++ [bl ln]) = (l ++ (replyP B (bl ln)).1 ++ [10], (replyP B (bl ln)).2)) := by
    show foldP B0 (ls ++ [bl ln]) = _
    rw [foldP_snoc, hB, hl2]
   rw [hB, hl2] at SK; clear hB hl2; obtain ⟨R, hR⟩ : ∃ R, replyP B (bl ln) = R := ⟨_, rfl⟩; have HRl : Hid (R.1.length ≤ 399) := hR ▸ reply_len B (bl ln); have HRe : Hid (replyP B (bl ln) = R) := hR; rw [hR] at HSn; clear hR; have HHr : Hid (Calls Tryz.prog 17 #[.string ln] wr fun e w' => RetH e w' wr.heap.size (bl ln) ∧ Below wr.heap.size wr w') := specHear_any ln wr (by omega); have hem2 : Hid (¬ at_ = k) := hem; have zP := SK.out.sz; clear hem
   go_wp2_with fail
   refine HHr.out.mono ?_; rintro e w4 ⟨hr4, hb4⟩; have S4 : Hid (ST w w4 P u6 B l) := SK.out.below hb4; have z4 : wr.heap.size ≤ w4.heap.size := hb4.size; clear hb4 HHr; clear te tl1 hln' b0 b1 b2 tk tl
   (try clear tc)
   rcases hr4 with ⟨E, ad, c, hl1, hl2, rfl, hown⟩ | ⟨hno, rfl⟩
   ·
    have HE : Hid (LineOk E ∧ R = (saidP B E, bkP B E)) := by
     refine ⟨hl1, ?_⟩; rw [← HRe.out]; unfold replyP; rw [heardOf_yes hl1 hl2]
    have EA4 : EvAt w4 (.agg #[.int .i64 E.op, .int .i64 E.of_, .string E.holder, .int .i64 E.kind, .slice ad E.secs.length c, .string E.text]) E := evW_at ⟨_, rfl, hown⟩; clear hl1 hl2 hown HRe; obtain ⟨e1, e2, e3⟩ := line_small HE.out.1; obtain ⟨m, hm, hm8⟩ : ∃ m : Nat, (doP B E).1 = (m : Int) ∧ m ≤ 8 := ⟨(doP B E).1.toNat, by have := doP_range B E; omega, by have := doP_range B E; omega⟩; have HM : Hid ((doP B E).1 = (m : Int)) := hm; clear hm; obtain ⟨W5, hW5⟩ : ∃ W, W = w4.alloc (.cells #[.bool true, .int .i64 E.op, .int .i64 E.of_, .string E.holder, .int .i64 E.kind, .slice ad E.secs.length c, .string E.text] 46) := ⟨_, rfl⟩
    have S5 : Hid (ST w W5 P u6 B l ∧ W5.heap[w4.heap.size]? = some (.cells #[.bool true, .int .i64 E.op, .int .i64 E.of_, .string E.holder, .int .i64 E.kind, .slice ad E.secs.length c, .string E.text] 46 (0, 0)) ∧ EvAt W5 (.agg #[.int .i64 E.op, .int .i64 E.of_, .string E.holder, .int .i64 E.kind, .slice ad E.secs.length c, .string E.text]) E ∧ w4.heap.size < W5.heap.size) := by
     rw [hW5]; exact ⟨S4.out.below (below1 _ _), Deep.blk_alloc_new _ _, EA4.below (below1 _ _), by simp⟩
    have hW5' : w4.alloc (.cells #[.bool true, .int .i64 E.op, .int .i64 E.of_, .string E.holder, .int .i64 E.kind, .slice ad E.secs.length c, .string E.text] 46) = W5 := hW5.symm; clear hW5 EA4; obtain ⟨ao, co, al, cl, ac, cc, KB, xP, hOB, hne⟩ := S5.out.1.bk; have HDo : Hid (Calls Tryz.prog 22 #[(.agg #[.int .i64 B.n, .slice ao B.orders.length co, .slice al B.locked.length cl, .slice ac B.occ.length cc]), (.agg #[.int .i64 E.op, .int .i64 E.of_, .string E.holder, .int .i64 E.kind, .slice ad E.secs.length c, .string E.text])] W5 fun e w' => RetDo e W5 w' B E) := specDo_any _ _ B E W5 (right_small HRB.out) ⟨by have := HRB.out.1.1.1; omega, by have := HRB.out.1.1.2; omega⟩ e1 e2 e3 hOB.bookAt S5.out.2.2.1; have p0 : W5.cell? ⟨P, 0, none⟩ = some (.int .i64 B.n) := cell_of_box xP rfl; have p1 : W5.cell? ⟨P, 1, none⟩ = some (.slice ao B.orders.length co) := cell_of_box xP rfl; have p2 : W5.cell? ⟨P, 2, none⟩ = some (.slice al B.locked.length cl) := cell_of_box xP rfl; have p3 : W5.cell? ⟨P, 3, none⟩ = some (.slice ac B.occ.length cc) := cell_of_box xP rfl; have h0 : W5.cell? ⟨w4.heap.size, 0, none⟩ = some (.bool true) := cell_of_box S5.out.2.1 rfl; have h1 : W5.cell? ⟨w4.heap.size, 1, none⟩ = some (.int .i64 E.op) := cell_of_box S5.out.2.1 rfl; have h2 : W5.cell? ⟨w4.heap.size, 2, none⟩ = some (.int .i64 E.of_) := cell_of_box S5.out.2.1 rfl; have h3 : W5.cell? ⟨w4.heap.size, 3, none⟩ = some (.string E.holder) := cell_of_box S5.out.2.1 rfl; have h4 : W5.cell? ⟨w4.heap.size, 4, none⟩ = some (.int .i64 E.kind) := cell_of_box S5.out.2.1 rfl; have h5 : W5.cell? ⟨w4.heap.size, 5, none⟩ = some (.slice ad E.secs.length c) := cell_of_box S5.out.2.1 rfl; have h6 : W5.cell? ⟨w4.heap.size, 6, none⟩ = some (.string E.text) := cell_of_box S5.out.2.1 rfl; have zP5 := S5.out.1.sz; have zW5 := S5.out.2.2.2; clear xP hOB hne e1 e2 e3
    go_wp2_with fail
    try rw [hW5']
    clear hW5'; refine HDo.out.mono ?_; rintro e w6 ⟨q0, q1, q2, q3, K6, he, hO6, hb6⟩; rw [HM.out] at he; subst he; obtain ⟨a7, c7, l7, d7, o7, f7, hv7, -⟩ := hO6.shape; simp only [Value.agg.injEq, Array.mk.injEq, List.cons.injEq, and_true] at hv7; obtain ⟨rfl, rfl, rfl, rfl⟩ := hv7; have z6 : W5.heap.size ≤ w6.heap.size := hb6.size; have S6 : Hid (ST w w6 P u6 B l ∧ w6.heap[w4.heap.size]? = some (.cells #[.bool true, .int .i64 E.op, .int .i64 E.of_, .string E.holder, .int .i64 E.kind, .slice ad E.secs.length c, .string E.text] 46 (0, 0)) ∧ OwnBook w6 W5.heap.size (.agg #[.int .i64 (doP B E).2.n, .slice a7 (doP B E).2.orders.length c7, .slice l7 (doP B E).2.locked.length d7, .slice o7 (doP B E).2.occ.length f7]) (doP B E).2 K6) := ⟨S5.out.1.below hb6, (hb6.block _ zW5).trans S5.out.2.1, hO6⟩; clear hO6 hb6 HDo p0 p1 p2 p3 h0 h1 h2 h3 h4 h5 h6; obtain ⟨W7, hW7⟩ : ∃ W, W = w6.alloc (.cells #[.int .i64 (m : Int), .int .i64 (doP B E).2.n, .slice a7 (doP B E).2.orders.length c7, .slice l7 (doP B E).2.locked.length d7, .slice o7 (doP B E).2.occ.length f7] 39) := ⟨_, rfl⟩
    have S7 : Hid (ST w W7 P u6 B l ∧ W7.heap[w4.heap.size]? = some (.cells #[.bool true, .int .i64 E.op, .int .i64 E.of_, .string E.holder, .int .i64 E.kind, .slice ad E.secs.length c, .string E.text] 46 (0, 0)) ∧ OwnBook W7 W5.heap.size (.agg #[.int .i64 (doP B E).2.n, .slice a7 (doP B E).2.orders.length c7, .slice l7 (doP B E).2.locked.length d7, .slice o7 (doP B E).2.occ.length f7]) (doP B E).2 K6 ∧ W7.heap[w6.heap.size]? = some (.cells #[.int .i64 (m : Int), .int .i64 (doP B E).2.n, .slice a7 (doP B E).2.orders.length c7, .slice l7 (doP B E).2.locked.length d7, .slice o7 (doP B E).2.occ.length f7] 39 (0, 0)) ∧ w6.heap.size < W7.heap.size) := by
     rw [hW7]; have bb := below1 w6 (.cells #[.int .i64 (m : Int), .int .i64 (doP B E).2.n, .slice a7 (doP B E).2.orders.length c7, .slice l7 (doP B E).2.locked.length d7, .slice o7 (doP B E).2.occ.length f7] 39); exact ⟨S6.out.1.below bb, (bb.block _ (by omega)).trans S6.out.2.1, S6.out.2.2.below bb, Deep.blk_alloc_new _ _, by simp⟩
    have hW7' : w6.alloc (.cells #[.int .i64 (m : Int), .int .i64 (doP B E).2.n, .slice a7 (doP B E).2.orders.length c7, .slice l7 (doP B E).2.locked.length d7, .slice o7 (doP B E).2.occ.length f7] 39) = W7 := hW7.symm; clear hW7; have d0 : W7.cell? ⟨w6.heap.size, 0, none⟩ = some (.int .i64 (m : Int)) := cell_of_box S7.out.2.2.2.1 rfl; have d1 : W7.cell? ⟨w6.heap.size, 1, none⟩ = some (.int .i64 (doP B E).2.n) := cell_of_box S7.out.2.2.2.1 rfl; have d2 : W7.cell? ⟨w6.heap.size, 2, none⟩ = some (.slice a7 (doP B E).2.orders.length c7) := cell_of_box S7.out.2.2.2.1 rfl; have d3 : W7.cell? ⟨w6.heap.size, 3, none⟩ = some (.slice l7 (doP B E).2.locked.length d7) := cell_of_box S7.out.2.2.2.1 rfl; have d4 : W7.cell? ⟨w6.heap.size, 4, none⟩ = some (.slice o7 (doP B E).2.occ.length f7) := cell_of_box S7.out.2.2.2.1 rfl; have zW7 := S7.out.2.2.2.2
    go_wp2_with fail
    try rw [hW7']
    clear hW7'; refine (l1decimal_any m W7 (by omega)).mono ?_; rintro e w8 ⟨⟨t8, rfl, ht8⟩, hb8⟩; have z8 : W7.heap.size ≤ w8.heap.size := hb8.size; have S8 : Hid (ST w w8 P u6 B l ∧ w8.heap[w4.heap.size]? = some (.cells #[.bool true, .int .i64 E.op, .int .i64 E.of_, .string E.holder, .int .i64 E.kind, .slice ad E.secs.length c, .string E.text] 46 (0, 0)) ∧ OwnBook w8 W5.heap.size (.agg #[.int .i64 (doP B E).2.n, .slice a7 (doP B E).2.orders.length c7, .slice l7 (doP B E).2.locked.length d7, .slice o7 (doP B E).2.occ.length f7]) (doP B E).2 K6 ∧ w8.heap[w6.heap.size]? = some (.cells #[.int .i64 (m : Int), .int .i64 (doP B E).2.n, .slice a7 (doP B E).2.orders.length c7, .slice l7 (doP B E).2.locked.length d7, .slice o7 (doP B E).2.occ.length f7] 39 (0, 0)) ∧ bl t8 = Lib.decDigits m) := ⟨S7.out.1.below hb8, (hb8.block _ (by omega)).trans S7.out.2.1, S7.out.2.2.1.below hb8, (hb8.block _ zW7).trans S7.out.2.2.2.1, ht8⟩; have ht8b : t8.size ≤ 1000 := by rw [← bl_size, ht8]; have := dec_len m (by omega); omega
    clear hb8 ht8 d0 d1 d2 d3 d4; obtain ⟨ao, co, al, cl, ac, cc, KB, xP, -, -⟩ := S8.out.1.bk; have p0 : w8.cell? ⟨P, 0, none⟩ = some (.int .i64 B.n) := cell_of_box xP rfl; have p1 : w8.cell? ⟨P, 1, none⟩ = some (.slice ao B.orders.length co) := cell_of_box xP rfl; have p2 : w8.cell? ⟨P, 2, none⟩ = some (.slice al B.locked.length cl) := cell_of_box xP rfl; have p3 : w8.cell? ⟨P, 3, none⟩ = some (.slice ac B.occ.length cc) := cell_of_box xP rfl; have f0 : w8.frozen? ⟨P, 0, none⟩ = false := frozen_of_box xP; have f1 : w8.frozen? ⟨P, 1, none⟩ = false := frozen_of_box xP; have f2 : w8.frozen? ⟨P, 2, none⟩ = false := frozen_of_box xP; have f3 : w8.frozen? ⟨P, 3, none⟩ = false := frozen_of_box xP; have h0 : w8.cell? ⟨w4.heap.size, 0, none⟩ = some (.bool true) := cell_of_box S8.out.2.1 rfl; have h1 : w8.cell? ⟨w4.heap.size, 1, none⟩ = some (.int .i64 E.op) := cell_of_box S8.out.2.1 rfl; have h2 : w8.cell? ⟨w4.heap.size, 2, none⟩ = some (.int .i64 E.of_) := cell_of_box S8.out.2.1 rfl; have h3 : w8.cell? ⟨w4.heap.size, 3, none⟩ = some (.string E.holder) := cell_of_box S8.out.2.1 rfl; have h4 : w8.cell? ⟨w4.heap.size, 4, none⟩ = some (.int .i64 E.kind) := cell_of_box S8.out.2.1 rfl; have h5 : w8.cell? ⟨w4.heap.size, 5, none⟩ = some (.slice ad E.secs.length c) := cell_of_box S8.out.2.1 rfl; have h6 : w8.cell? ⟨w4.heap.size, 6, none⟩ = some (.string E.text) := cell_of_box S8.out.2.1 rfl; have d0 : w8.cell? ⟨w6.heap.size, 0, none⟩ = some (.int .i64 (m : Int)) := cell_of_box S8.out.2.2.2.1 rfl; have d1 : w8.cell? ⟨w6.heap.size, 1, none⟩ = some (.int .i64 (doP B E).2.n) := cell_of_box S8.out.2.2.2.1 rfl; have d2 : w8.cell? ⟨w6.heap.size, 2, none⟩ = some (.slice a7 (doP B E).2.orders.length c7) := cell_of_box S8.out.2.2.2.1 rfl; have d3 : w8.cell? ⟨w6.heap.size, 3, none⟩ = some (.slice l7 (doP B E).2.locked.length d7) := cell_of_box S8.out.2.2.2.1 rfl; have d4 : w8.cell? ⟨w6.heap.size, 4, none⟩ = some (.slice o7 (doP B E).2.occ.length f7) := cell_of_box S8.out.2.2.2.1 rfl; have zP8 := S8.out.1.sz; clear xP
    by_cases m1 : m = 1
    ·
     have HB1 : Hid (bkP B E = B ∧ saidP B E = Lib.decDigits m) := by
      have h1 : (doP B E).1 = 1 := by rw [HM.out, m1]; rfl
      refine ⟨?_, ?_⟩
      · unfold bkP; rw [if_pos h1]
      · unfold saidP; rw [if_neg (fun q => by rw [h1] at q; exact absurd q.1 (by decide)), HM.out]; rfl
     have t1 : ((m : Int) == 1) = true := by rw [m1]; rfl
     have t0 : ((m : Int) == 0) = false := beq_eq_false_iff_ne.2 (by omega); clear m1
     have S9 : Hid (ST w w8 P u6 R.2 l ∧ True) := by
      refine ⟨?_, trivial⟩; rw [HE.out.2]; show ST w w8 P u6 (bkP B E) l
      rw [HB1.out.1]; exact S8.out.1
     have HT9 : Hid (bl t8 = R.1) := by
      show bl t8 = R.1
      rw [HE.out.2]; exact S8.out.2.2.2.2.trans HB1.out.2.symm
     go_upto_region 22 with (fail)
     go_wp2_with (at_builtin; refine stand ?_)
     refine Stand.go ?_; clear p0 p1 p2 p3 f0 f1 f2 f3 h0 h1 h2 h3 h4 h5 h6 d0 d1 d2 d3 d4; have zW := S9.out.1.sz; have hsz9 : (t8 ++ ⟨#[10]⟩ : ByteArray).size = t8.size + 1 := by rw [ByteArray.size_append]; rfl
     have ht9 : t8.size = R.1.length := by rw [← bl_size, HT9.out]
     have hr9 := HRl.out; refine wpList_append_str rfl _ _ rfl (P + 1) u6 l.length (Lib.byteCells l) rfl S9.out.1.out (t8 ++ ⟨#[10]⟩) (by first | rfl | (simp [Act.eval]; done)) (by omega) (by omega) ?_; intro u7 w9 hown9 hg9
     have S9 : Hid (ST w w9 P u7 (foldP B0 (ls ++ [bl ln])).2 (foldP B0 (ls ++ [bl ln])).1) := by
      show ST w w9 P u7 _ _
      rw [HSn.out]; have := S9.out.1.push (t8 ++ ⟨#[10]⟩) hown9 hg9; rw [bl_append, HT9.out, ← List.append_assoc] at this; exact this
     clear hown9 hg9 hsz9 ht9 hr9; go_wp2; go_roundw
     case rel => exact ⟨k + 1, k + 1, ls ++ [bl ln], Nat.le_refl _, by omega, fun e => e, by go_num, by go_num, fun j j1 j2 => absurd j2 (by omega), HL2.out, by simp; omega, S9.out⟩
     case measure => simp [intOf]; omega
    have t1 : ((m : Int) == 1) = false := beq_eq_false_iff_ne.2 (by omega)
    have HBK : Hid (bkP B E = (doP B E).2) := by
     show bkP B E = _
     unfold bkP; rw [if_neg (by rw [HM.out]; omega)]
    obtain ⟨W9, hW9⟩ : ∃ W, W = put4 w8 P (.int .i64 (doP B E).2.n) (.slice a7 (doP B E).2.orders.length c7) (.slice l7 (doP B E).2.locked.length d7) (.slice o7 (doP B E).2.occ.length f7) := ⟨_, rfl⟩; have hW9' : (((w8.setCell ⟨P, 0, none⟩ (.int .i64 (doP B E).2.n)).setCell ⟨P, 1, none⟩ (.slice a7 (doP B E).2.orders.length c7)).setCell ⟨P, 2, none⟩ (.slice l7 (doP B E).2.locked.length d7)).setCell ⟨P, 3, none⟩ (.slice o7 (doP B E).2.occ.length f7) = W9 := hW9.symm
    have S9 : Hid (ST w W9 P u6 (bkP B E) l ∧ W9.heap[w4.heap.size]? = some (.cells #[.bool true, .int .i64 E.op, .int .i64 E.of_, .string E.holder, .int .i64 E.kind, .slice ad E.secs.length c, .string E.text] 46 (0, 0)) ∧ W9.heap[w6.heap.size]? = some (.cells #[.int .i64 (m : Int), .int .i64 (doP B E).2.n, .slice a7 (doP B E).2.orders.length c7, .slice l7 (doP B E).2.locked.length d7, .slice o7 (doP B E).2.occ.length f7] 39 (0, 0))) := by
     rw [hW9, HBK.out]; have f4 := put4_fr w8 P (.int .i64 (doP B E).2.n) (.slice a7 (doP B E).2.orders.length c7) (.slice l7 (doP B E).2.locked.length d7) (.slice o7 (doP B E).2.occ.length f7); exact ⟨S8.out.1.put S8.out.2.2.1 (by omega), (f4.block _ (by omega) (by omega)).trans S8.out.2.1, (f4.block _ (by omega) (by omega)).trans S8.out.2.2.2.1⟩
    have xP9 : W9.heap[P]? = some (.cells #[.int .i64 (doP B E).2.n, .slice a7 (doP B E).2.orders.length c7, .slice l7 (doP B E).2.locked.length d7, .slice o7 (doP B E).2.occ.length f7] 37 (0, 0)) := by
     rw [hW9]; obtain ⟨ao, co, al, cl, ac, cc, KB, xP, -, -⟩ := S8.out.1.bk; exact put4_box xP _ _ _ _
    clear hW9; have r0 : W9.cell? ⟨P, 0, none⟩ = some (.int .i64 (doP B E).2.n) := cell_of_box xP9 rfl; have r1 : W9.cell? ⟨P, 1, none⟩ = some (.slice a7 (doP B E).2.orders.length c7) := cell_of_box xP9 rfl; have r2 : W9.cell? ⟨P, 2, none⟩ = some (.slice l7 (doP B E).2.locked.length d7) := cell_of_box xP9 rfl; have r3 : W9.cell? ⟨P, 3, none⟩ = some (.slice o7 (doP B E).2.occ.length f7) := cell_of_box xP9 rfl; have s0 : W9.cell? ⟨w4.heap.size, 0, none⟩ = some (.bool true) := cell_of_box S9.out.2.1 rfl; have s1 : W9.cell? ⟨w4.heap.size, 1, none⟩ = some (.int .i64 E.op) := cell_of_box S9.out.2.1 rfl; have s2 : W9.cell? ⟨w4.heap.size, 2, none⟩ = some (.int .i64 E.of_) := cell_of_box S9.out.2.1 rfl; have s3 : W9.cell? ⟨w4.heap.size, 3, none⟩ = some (.string E.holder) := cell_of_box S9.out.2.1 rfl; have s4 : W9.cell? ⟨w4.heap.size, 4, none⟩ = some (.int .i64 E.kind) := cell_of_box S9.out.2.1 rfl; have s5 : W9.cell? ⟨w4.heap.size, 5, none⟩ = some (.slice ad E.secs.length c) := cell_of_box S9.out.2.1 rfl; have s6 : W9.cell? ⟨w4.heap.size, 6, none⟩ = some (.string E.text) := cell_of_box S9.out.2.1 rfl; have v0 : W9.cell? ⟨w6.heap.size, 0, none⟩ = some (.int .i64 (m : Int)) := cell_of_box S9.out.2.2 rfl; have v1 : W9.cell? ⟨w6.heap.size, 1, none⟩ = some (.int .i64 (doP B E).2.n) := cell_of_box S9.out.2.2 rfl; have v2 : W9.cell? ⟨w6.heap.size, 2, none⟩ = some (.slice a7 (doP B E).2.orders.length c7) := cell_of_box S9.out.2.2 rfl; have v3 : W9.cell? ⟨w6.heap.size, 3, none⟩ = some (.slice l7 (doP B E).2.locked.length d7) := cell_of_box S9.out.2.2 rfl; have v4 : W9.cell? ⟨w6.heap.size, 4, none⟩ = some (.slice o7 (doP B E).2.occ.length f7) := cell_of_box S9.out.2.2 rfl
    by_cases hgv : m = 0 ∧ E.op = 2
    ·
     have h00 : (doP B E).1 = 0 := by rw [HM.out, hgv.1]; rfl
     have t0 : ((m : Int) == 0) = true := by rw [hgv.1]; rfl
     have ho : E.op = 2 := hgv.2; have t2 : (E.op == 2) = true := by rw [ho]; rfl
     obtain ⟨j, hj, hjl⟩ := give_of h00 ho; rw [← HBK.out] at hjl; have HO : Hid ((doP B E).1 = 0 ∧ E.op = 2) := ⟨h00, ho⟩; have HJl : Hid (j < (bkP B E).orders.length) := hjl; have HRk : Hid (Right (bkP B E)) := right_bkP HRB.out E
     have HBt : Hid (BookAt W9 (.agg #[.int .i64 (doP B E).2.n, .slice a7 (doP B E).2.orders.length c7, .slice l7 (doP B E).2.locked.length d7, .slice o7 (doP B E).2.occ.length f7]) (bkP B E)) := by
      obtain ⟨ao, co, al, cl, ac, cc, KB, xP, hOB, -⟩ := S9.out.1.bk; rw [xP9] at xP; simp only [Option.some.injEq, Obj.cells.injEq, Array.mk.injEq, List.cons.injEq, Value.slice.injEq, and_true] at xP; rw [HBK.out] at hOB ⊢; obtain ⟨-, ⟨rfl, -, rfl⟩, ⟨rfl, -, rfl⟩, rfl, -, rfl⟩ := xP; exact hOB.bookAt
     have HTx : Hid (Calls Tryz.prog 52 #[(.agg #[.int .i64 (doP B E).2.n, .slice a7 (doP B E).2.orders.length c7, .slice l7 (doP B E).2.locked.length d7, .slice o7 (doP B E).2.occ.length f7]), .int .i64 (j : Int)] W9 fun e w' => RetO e (bkP B E) j ∧ Below W9.heap.size W9 w') := l1text_any _ (bkP B E) j W9 hjl HRk.out HBt.out; clear xP9 HBt h00 ho hgv hjl m1; have HJ : Hid (E.of_ = (j : Int)) := hj; rw [hj] at s2; clear hj
     go_wp2_with fail
     try rw [hW9']
     clear hW9'; refine HTx.out.mono ?_; rintro e w10 ⟨⟨t9, rfl, ht9o⟩, hb9⟩; have hTI : TextIs (bkP B E) (j : Int) (bl t9) := Or.inr ⟨HRk.out, j, rfl, HJl.out, ht9o⟩; have ht9b : t9.size ≤ 1000 := by rw [← bl_size]; have := textIs_le hTI; omega
     have HT9 : Hid (bl t9 = R.1) := by
      show bl t9 = R.1
      rw [HE.out.2]; show bl t9 = saidP B E
      unfold saidP; rw [if_pos HO.out, HJ.out, ordText_is hTI]
     have S10 : Hid (ST w w10 P u6 R.2 l ∧ True) := by
      refine ⟨?_, trivial⟩; rw [HE.out.2]; exact S9.out.1.below hb9
     clear hTI ht9o hb9 HTx p0 p1 p2 p3 f0 f1 f2 f3 h0 h1 h2 h3 h4 h5 h6 d0 d1 d2 d3 d4 r0 r1 r2 r3 s0 s1 s2 s3 s4 s5 s6 v0 v1 v2 v3 v4
     go_upto_region 22 with (fail)
     go_wp2_with (at_builtin; refine stand ?_)
     refine Stand.go ?_; have zW := S10.out.1.sz; have hsz9 : (t9 ++ ⟨#[10]⟩ : ByteArray).size = t9.size + 1 := by rw [ByteArray.size_append]; rfl
     have ht9 : t9.size = R.1.length := by rw [← bl_size, HT9.out]
     have hr9 := HRl.out; refine wpList_append_str rfl _ _ rfl (P + 1) u6 l.length (Lib.byteCells l) rfl S10.out.1.out (t9 ++ ⟨#[10]⟩) (by first | rfl | (simp [Act.eval]; done)) (by omega) (by omega) ?_; intro u7 w9 hown9 hg9
     have S9 : Hid (ST w w9 P u7 (foldP B0 (ls ++ [bl ln])).2 (foldP B0 (ls ++ [bl ln])).1) := by
      show ST w w9 P u7 _ _
      rw [HSn.out]; have := S10.out.1.push (t9 ++ ⟨#[10]⟩) hown9 hg9; rw [bl_append, HT9.out, ← List.append_assoc] at this; exact this
     clear hown9 hg9 hsz9 ht9 hr9; go_wp2; go_roundw
     case rel => exact ⟨k + 1, k + 1, ls ++ [bl ln], Nat.le_refl _, by omega, fun e => e, by go_num, by go_num, fun j j1 j2 => absurd j2 (by omega), HL2.out, by simp; omega, S9.out⟩
     case measure => simp [intOf]; omega
    ·
     have HO : Hid (saidP B E = Lib.decDigits m) := by
      show saidP B E = _
      unfold saidP; rw [if_neg (fun q => hgv ⟨by have := HM.out; omega, q.2⟩), HM.out]; rfl
     have HT9 : Hid (bl t8 = R.1) := by
      show bl t8 = R.1
      rw [HE.out.2]; exact S8.out.2.2.2.2.trans HO.out.symm
     have S10 : Hid (ST w W9 P u6 R.2 l ∧ True) := by
      refine ⟨?_, trivial⟩; rw [HE.out.2]; exact S9.out.1
     clear xP9
     by_cases m0 : m = 0
     ·
      have t0 : ((m : Int) == 0) = true := by rw [m0]; rfl
      have t2 : (E.op == 2) = false := beq_eq_false_iff_ne.2 (fun e => hgv ⟨m0, e⟩); clear m0 hgv m1
      go_upto_region 22 with (fail)
      go_wp2_with (at_builtin; refine stand ?_)
      refine Stand.go ?_
      try rw [hW9']
      clear hW9' p0 p1 p2 p3 f0 f1 f2 f3 h0 h1 h2 h3 h4 h5 h6 d0 d1 d2 d3 d4 r0 r1 r2 r3 s0 s1 s2 s3 s4 s5 s6 v0 v1 v2 v3 v4; have zW := S10.out.1.sz; have hsz9 : (t8 ++ ⟨#[10]⟩ : ByteArray).size = t8.size + 1 := by rw [ByteArray.size_append]; rfl
      have ht9 : t8.size = R.1.length := by rw [← bl_size, HT9.out]
      have hr9 := HRl.out; refine wpList_append_str rfl _ _ rfl (P + 1) u6 l.length (Lib.byteCells l) rfl S10.out.1.out (t8 ++ ⟨#[10]⟩) (by first | rfl | (simp [Act.eval]; done)) (by omega) (by omega) ?_; intro u7 w9 hown9 hg9
      have S9 : Hid (ST w w9 P u7 (foldP B0 (ls ++ [bl ln])).2 (foldP B0 (ls ++ [bl ln])).1) := by
       show ST w w9 P u7 _ _
       rw [HSn.out]; have := S10.out.1.push (t8 ++ ⟨#[10]⟩) hown9 hg9; rw [bl_append, HT9.out, ← List.append_assoc] at this; exact this
      clear hown9 hg9 hsz9 ht9 hr9; go_wp2; go_roundw
      case rel => exact ⟨k + 1, k + 1, ls ++ [bl ln], Nat.le_refl _, by omega, fun e => e, by go_num, by go_num, fun j j1 j2 => absurd j2 (by omega), HL2.out, by simp; omega, S9.out⟩
      case measure => simp [intOf]; omega
     ·
      have t0 : ((m : Int) == 0) = false := beq_eq_false_iff_ne.2 (by omega); clear m0 hgv m1
      go_upto_region 22 with (fail)
      go_wp2_with (at_builtin; refine stand ?_)
      refine Stand.go ?_
      try rw [hW9']
      clear hW9' p0 p1 p2 p3 f0 f1 f2 f3 h0 h1 h2 h3 h4 h5 h6 d0 d1 d2 d3 d4 r0 r1 r2 r3 s0 s1 s2 s3 s4 s5 s6 v0 v1 v2 v3 v4; have zW := S10.out.1.sz; have hsz9 : (t8 ++ ⟨#[10]⟩ : ByteArray).size = t8.size + 1 := by rw [ByteArray.size_append]; rfl
      have ht9 : t8.size = R.1.length := by rw [← bl_size, HT9.out]
      have hr9 := HRl.out; refine wpList_append_str rfl _ _ rfl (P + 1) u6 l.length (Lib.byteCells l) rfl S10.out.1.out (t8 ++ ⟨#[10]⟩) (by first | rfl | (simp [Act.eval]; done)) (by omega) (by omega) ?_; intro u7 w9 hown9 hg9
      have S9 : Hid (ST w w9 P u7 (foldP B0 (ls ++ [bl ln])).2 (foldP B0 (ls ++ [bl ln])).1) := by
       show ST w w9 P u7 _ _
       rw [HSn.out]; have := S10.out.1.push (t8 ++ ⟨#[10]⟩) hown9 hg9; rw [bl_append, HT9.out, ← List.append_assoc] at this; exact this
      clear hown9 hg9 hsz9 ht9 hr9; go_wp2; go_roundw
      case rel => exact ⟨k + 1, k + 1, ls ++ [bl ln], Nat.le_refl _, by omega, fun e => e, by go_num, by go_num, fun j j1 j2 => absurd j2 (by omega), HL2.out, by simp; omega, S9.out⟩
      case measure => simp [intOf]; omega
   ·
    have HN : Hid (R = (whatT, B)) := by
     show R = _
     rw [← HRe.out]; unfold replyP; rw [heardOf_no hno]
    clear hno HRe
    go_upto_region 22 with (fail)
    obtain ⟨W5, hW5⟩ : ∃ W, W = w4.alloc (.cells #[.bool false, .int .i64 0, .int .i64 0, .string ⟨#[]⟩, .int .i64 0, .slice none 0 0, .string ⟨#[]⟩] 46) := ⟨_, rfl⟩
    have S5 : Hid (ST w W5 P u6 R.2 l ∧ W5.heap[w4.heap.size]? = some (.cells #[.bool false, .int .i64 0, .int .i64 0, .string ⟨#[]⟩, .int .i64 0, .slice none 0 0, .string ⟨#[]⟩] 46 (0, 0))) := by
     rw [hW5, HN.out]; exact ⟨S4.out.below (below1 _ _), Deep.blk_alloc_new _ _⟩
    have hW5' : w4.alloc (.cells #[.bool false, .int .i64 0, .int .i64 0, .string ⟨#[]⟩, .int .i64 0, .slice none 0 0, .string ⟨#[]⟩] 46) = W5 := hW5.symm
    have HT9 : Hid (bl (⟨#[119, 104, 97, 116]⟩ : ByteArray) = R.1) := by
     show _ = R.1
     rw [HN.out]; rfl
    rw [hW5']; clear hW5 hW5'
    go_wp2_with (at_builtin; refine stand ?_)
    refine Stand.go ?_; have zW := S5.out.1.sz; have hsz9 : ((⟨#[119, 104, 97, 116]⟩ : ByteArray) ++ ⟨#[10]⟩ : ByteArray).size = (⟨#[119, 104, 97, 116]⟩ : ByteArray).size + 1 := by rw [ByteArray.size_append]; rfl
    have ht9 : (⟨#[119, 104, 97, 116]⟩ : ByteArray).size = R.1.length := by rw [← bl_size, HT9.out]
    have hr9 := HRl.out; refine wpList_append_str rfl _ _ rfl (P + 1) u6 l.length (Lib.byteCells l) rfl S5.out.1.out ((⟨#[119, 104, 97, 116]⟩ : ByteArray) ++ ⟨#[10]⟩) (by first | rfl | (simp [Act.eval]; done)) (by omega) (by omega) ?_; intro u7 w9 hown9 hg9
    have S9 : Hid (ST w w9 P u7 (foldP B0 (ls ++ [bl ln])).2 (foldP B0 (ls ++ [bl ln])).1) := by
     show ST w w9 P u7 _ _
     rw [HSn.out]; have := S5.out.1.push ((⟨#[119, 104, 97, 116]⟩ : ByteArray) ++ ⟨#[10]⟩) hown9 hg9; rw [bl_append, HT9.out, ← List.append_assoc] at this; exact this
    clear hown9 hg9 hsz9 ht9 hr9; go_wp2; go_roundw
    case rel => exact ⟨k + 1, k + 1, ls ++ [bl ln], Nat.le_refl _, by omega, fun e => e, by go_num, by go_num, fun j j1 j2 => absurd j2 (by omega), HL2.out, by simp; omega, S9.out⟩
    case measure => simp [intOf]; omega
  ·
   have tl1 : decide ((k : Int) < (s.size : Int)) = false := decide_eq_false (by omega); clear hc; obtain ⟨ln, hln⟩ : ∃ x, s.extract at_ k = x := ⟨_, rfl⟩; rw [hln] at HLO hsz; have hln' := hln; clear hsl hll hln
   by_cases hem : at_ = k
   ·
    have te : ln.toList.isEmpty = true := by
     rw [ByteArray.toList_eq, nil_of (show ln.size = 0 by omega)]; rfl
    have HL2 : Hid (linesOf (bl s) = ls ++ linesOf ((bl s).drop (k + 1))) := by
     show linesOf (bl s) = _
     have : bl ln = [] := List.length_eq_zero_iff.1 (by rw [bl_size]; omega); rw [H4.out.2, HLO.out, if_pos this, List.nil_append]
    clear HLO; have hem2 : Hid (at_ = k) := hem; clear hem; go_wp2; go_roundw
    case rel => exact ⟨k + 1, k + 1, ls, Nat.le_refl _, by omega, fun e => e, by go_num, by go_num, fun j j1 j2 => absurd j2 (by omega), HL2.out, by omega, SK.out⟩
    case measure => simp [intOf]; omega
   have te : ln.toList.isEmpty = false := by
    rw [ByteArray.toList_eq]; cases hx : ln.data.toList with
    | nil => exact absurd (show ln.size = 0 by rw [← bl_size]; show ln.data.toList.length = 0; rw [hx]; rfl) (by omega)
    | cons a b => rfl
   have HL2 : Hid (linesOf (bl s) = (ls ++ [bl ln]) ++ linesOf ((bl s).drop (k + 1))) := by
    show linesOf (bl s) = _
    have : ¬ bl ln = [] := fun e => by
     have h := congrArg List.length e; rw [bl_size] at h; have h2 : ln.size = 0 := h; omega
    rw [H4.out.2, HLO.out, if_neg this, List.append_assoc]
   clear HLO; obtain ⟨B, hB⟩ : ∃ B, (foldP B0 ls).2 = B := ⟨_, rfl⟩; obtain ⟨l, hl2⟩ : ∃ l, (foldP B0 ls).1 = l := ⟨_, rfl⟩; have HRB : Hid (Right B) := hB ▸ right_foldP HR.out ls; have hlb : l.length ≤ 400 * ls.length := hl2 ▸ foldP_len B0 ls
   have HSn : Hid (foldP B0 (ls ++ [bl ln]) = (l ++ (replyP B (bl ln)).1 ++ [10], (replyP B (bl ln)).2)) := by
    show foldP B0 (ls ++ [bl ln]) = _
    rw [foldP_snoc, hB, hl2]
   rw [hB, hl2] at SK; clear hB hl2; obtain ⟨R, hR⟩ : ∃ R, replyP B (bl ln) = R := ⟨_, rfl⟩; have HRl : Hid (R.1.length ≤ 399) := hR ▸ reply_len B (bl ln); have HRe : Hid (replyP B (bl ln) = R) := hR; rw [hR] at HSn; clear hR; have HHr : Hid (Calls Tryz.prog 17 #[.string ln] wr fun e w' => RetH e w' wr.heap.size (bl ln) ∧ Below wr.heap.size wr w') := specHear_any ln wr (by omega); have hem2 : Hid (¬ at_ = k) := hem; have zP := SK.out.sz; clear hem
   go_wp2_with fail
   refine HHr.out.mono ?_; rintro e w4 ⟨hr4, hb4⟩; have S4 : Hid (ST w w4 P u6 B l) := SK.out.below hb4; have z4 : wr.heap.size ≤ w4.heap.size := hb4.size; clear hb4 HHr; clear te tl1 hln' b0 b1 b2 tk tl
   (try clear tc)
   rcases hr4 with ⟨E, ad, c, hl1, hl2, rfl, hown⟩ | ⟨hno, rfl⟩
   ·
    have HE : Hid (LineOk E ∧ R = (saidP B E, bkP B E)) := by
     refine ⟨hl1, ?_⟩; rw [← HRe.out]; unfold replyP; rw [heardOf_yes hl1 hl2]
    have EA4 : EvAt w4 (.agg #[.int .i64 E.op, .int .i64 E.of_, .string E.holder, .int .i64 E.kind, .slice ad E.secs.length c, .string E.text]) E := evW_at ⟨_, rfl, hown⟩; clear hl1 hl2 hown HRe; obtain ⟨e1, e2, e3⟩ := line_small HE.out.1; obtain ⟨m, hm, hm8⟩ : ∃ m : Nat, (doP B E).1 = (m : Int) ∧ m ≤ 8 := ⟨(doP B E).1.toNat, by have := doP_range B E; omega, by have := doP_range B E; omega⟩; have HM : Hid ((doP B E).1 = (m : Int)) := hm; clear hm; obtain ⟨W5, hW5⟩ : ∃ W, W = w4.alloc (.cells #[.bool true, .int .i64 E.op, .int .i64 E.of_, .string E.holder, .int .i64 E.kind, .slice ad E.secs.length c, .string E.text] 46) := ⟨_, rfl⟩
    have S5 : Hid (ST w W5 P u6 B l ∧ W5.heap[w4.heap.size]? = some (.cells #[.bool true, .int .i64 E.op, .int .i64 E.of_, .string E.holder, .int .i64 E.kind, .slice ad E.secs.length c, .string E.text] 46 (0, 0)) ∧ EvAt W5 (.agg #[.int .i64 E.op, .int .i64 E.of_, .string E.holder, .int .i64 E.kind, .slice ad E.secs.length c, .string E.text]) E ∧ w4.heap.size < W5.heap.size) := by
     rw [hW5]; exact ⟨S4.out.below (below1 _ _), Deep.blk_alloc_new _ _, EA4.below (below1 _ _), by simp⟩
    have hW5' : w4.alloc (.cells #[.bool true, .int .i64 E.op, .int .i64 E.of_, .string E.holder, .int .i64 E.kind, .slice ad E.secs.length c, .string E.text] 46) = W5 := hW5.symm; clear hW5 EA4; obtain ⟨ao, co, al, cl, ac, cc, KB, xP, hOB, hne⟩ := S5.out.1.bk; have HDo : Hid (Calls Tryz.prog 22 #[(.agg #[.int .i64 B.n, .slice ao B.orders.length co, .slice al B.locked.length cl, .slice ac B.occ.length cc]), (.agg #[.int .i64 E.op, .int .i64 E.of_, .string E.holder, .int .i64 E.kind, .slice ad E.secs.length c, .string E.text])] W5 fun e w' => RetDo e W5 w' B E) := specDo_any _ _ B E W5 (right_small HRB.out) ⟨by have := HRB.out.1.1.1; omega, by have := HRB.out.1.1.2; omega⟩ e1 e2 e3 hOB.bookAt S5.out.2.2.1; have p0 : W5.cell? ⟨P, 0, none⟩ = some (.int .i64 B.n) := cell_of_box xP rfl; have p1 : W5.cell? ⟨P, 1, none⟩ = some (.slice ao B.orders.length co) := cell_of_box xP rfl; have p2 : W5.cell? ⟨P, 2, none⟩ = some (.slice al B.locked.length cl) := cell_of_box xP rfl; have p3 : W5.cell? ⟨P, 3, none⟩ = some (.slice ac B.occ.length cc) := cell_of_box xP rfl; have h0 : W5.cell? ⟨w4.heap.size, 0, none⟩ = some (.bool true) := cell_of_box S5.out.2.1 rfl; have h1 : W5.cell? ⟨w4.heap.size, 1, none⟩ = some (.int .i64 E.op) := cell_of_box S5.out.2.1 rfl; have h2 : W5.cell? ⟨w4.heap.size, 2, none⟩ = some (.int .i64 E.of_) := cell_of_box S5.out.2.1 rfl; have h3 : W5.cell? ⟨w4.heap.size, 3, none⟩ = some (.string E.holder) := cell_of_box S5.out.2.1 rfl; have h4 : W5.cell? ⟨w4.heap.size, 4, none⟩ = some (.int .i64 E.kind) := cell_of_box S5.out.2.1 rfl; have h5 : W5.cell? ⟨w4.heap.size, 5, none⟩ = some (.slice ad E.secs.length c) := cell_of_box S5.out.2.1 rfl; have h6 : W5.cell? ⟨w4.heap.size, 6, none⟩ = some (.string E.text) := cell_of_box S5.out.2.1 rfl; have zP5 := S5.out.1.sz; have zW5 := S5.out.2.2.2; clear xP hOB hne e1 e2 e3
    go_wp2_with fail
    try rw [hW5']
    clear hW5'; refine HDo.out.mono ?_; rintro e w6 ⟨q0, q1, q2, q3, K6, he, hO6, hb6⟩; rw [HM.out] at he; subst he; obtain ⟨a7, c7, l7, d7, o7, f7, hv7, -⟩ := hO6.shape; simp only [Value.agg.injEq, Array.mk.injEq, List.cons.injEq, and_true] at hv7; obtain ⟨rfl, rfl, rfl, rfl⟩ := hv7; have z6 : W5.heap.size ≤ w6.heap.size := hb6.size; have S6 : Hid (ST w w6 P u6 B l ∧ w6.heap[w4.heap.size]? = some (.cells #[.bool true, .int .i64 E.op, .int .i64 E.of_, .string E.holder, .int .i64 E.kind, .slice ad E.secs.length c, .string E.text] 46 (0, 0)) ∧ OwnBook w6 W5.heap.size (.agg #[.int .i64 (doP B E).2.n, .slice a7 (doP B E).2.orders.length c7, .slice l7 (doP B E).2.locked.length d7, .slice o7 (doP B E).2.occ.length f7]) (doP B E).2 K6) := ⟨S5.out.1.below hb6, (hb6.block _ zW5).trans S5.out.2.1, hO6⟩; clear hO6 hb6 HDo p0 p1 p2 p3 h0 h1 h2 h3 h4 h5 h6; obtain ⟨W7, hW7⟩ : ∃ W, W = w6.alloc (.cells #[.int .i64 (m : Int), .int .i64 (doP B E).2.n, .slice a7 (doP B E).2.orders.length c7, .slice l7 (doP B E).2.locked.length d7, .slice o7 (doP B E).2.occ.length f7] 39) := ⟨_, rfl⟩
    have S7 : Hid (ST w W7 P u6 B l ∧ W7.heap[w4.heap.size]? = some (.cells #[.bool true, .int .i64 E.op, .int .i64 E.of_, .string E.holder, .int .i64 E.kind, .slice ad E.secs.length c, .string E.text] 46 (0, 0)) ∧ OwnBook W7 W5.heap.size (.agg #[.int .i64 (doP B E).2.n, .slice a7 (doP B E).2.orders.length c7, .slice l7 (doP B E).2.locked.length d7, .slice o7 (doP B E).2.occ.length f7]) (doP B E).2 K6 ∧ W7.heap[w6.heap.size]? = some (.cells #[.int .i64 (m : Int), .int .i64 (doP B E).2.n, .slice a7 (doP B E).2.orders.length c7, .slice l7 (doP B E).2.locked.length d7, .slice o7 (doP B E).2.occ.length f7] 39 (0, 0)) ∧ w6.heap.size < W7.heap.size) := by
     rw [hW7]; have bb := below1 w6 (.cells #[.int .i64 (m : Int), .int .i64 (doP B E).2.n, .slice a7 (doP B E).2.orders.length c7, .slice l7 (doP B E).2.locked.length d7, .slice o7 (doP B E).2.occ.length f7] 39); exact ⟨S6.out.1.below bb, (bb.block _ (by omega)).trans S6.out.2.1, S6.out.2.2.below bb, Deep.blk_alloc_new _ _, by simp⟩
    have hW7' : w6.alloc (.cells #[.int .i64 (m : Int), .int .i64 (doP B E).2.n, .slice a7 (doP B E).2.orders.length c7, .slice l7 (doP B E).2.locked.length d7, .slice o7 (doP B E).2.occ.length f7] 39) = W7 := hW7.symm; clear hW7; have d0 : W7.cell? ⟨w6.heap.size, 0, none⟩ = some (.int .i64 (m : Int)) := cell_of_box S7.out.2.2.2.1 rfl; have d1 : W7.cell? ⟨w6.heap.size, 1, none⟩ = some (.int .i64 (doP B E).2.n) := cell_of_box S7.out.2.2.2.1 rfl; have d2 : W7.cell? ⟨w6.heap.size, 2, none⟩ = some (.slice a7 (doP B E).2.orders.length c7) := cell_of_box S7.out.2.2.2.1 rfl; have d3 : W7.cell? ⟨w6.heap.size, 3, none⟩ = some (.slice l7 (doP B E).2.locked.length d7) := cell_of_box S7.out.2.2.2.1 rfl; have d4 : W7.cell? ⟨w6.heap.size, 4, none⟩ = some (.slice o7 (doP B E).2.occ.length f7) := cell_of_box S7.out.2.2.2.1 rfl; have zW7 := S7.out.2.2.2.2
    go_wp2_with fail
    try rw [hW7']
    clear hW7'; refine (l1decimal_any m W7 (by omega)).mono ?_; rintro e w8 ⟨⟨t8, rfl, ht8⟩, hb8⟩; have z8 : W7.heap.size ≤ w8.heap.size := hb8.size; have S8 : Hid (ST w w8 P u6 B l ∧ w8.heap[w4.heap.size]? = some (.cells #[.bool true, .int .i64 E.op, .int .i64 E.of_, .string E.holder, .int .i64 E.kind, .slice ad E.secs.length c, .string E.text] 46 (0, 0)) ∧ OwnBook w8 W5.heap.size (.agg #[.int .i64 (doP B E).2.n, .slice a7 (doP B E).2.orders.length c7, .slice l7 (doP B E).2.locked.length d7, .slice o7 (doP B E).2.occ.length f7]) (doP B E).2 K6 ∧ w8.heap[w6.heap.size]? = some (.cells #[.int .i64 (m : Int), .int .i64 (doP B E).2.n, .slice a7 (doP B E).2.orders.length c7, .slice l7 (doP B E).2.locked.length d7, .slice o7 (doP B E).2.occ.length f7] 39 (0, 0)) ∧ bl t8 = Lib.decDigits m) := ⟨S7.out.1.below hb8, (hb8.block _ (by omega)).trans S7.out.2.1, S7.out.2.2.1.below hb8, (hb8.block _ zW7).trans S7.out.2.2.2.1, ht8⟩; have ht8b : t8.size ≤ 1000 := by rw [← bl_size, ht8]; have := dec_len m (by omega); omega
    clear hb8 ht8 d0 d1 d2 d3 d4; obtain ⟨ao, co, al, cl, ac, cc, KB, xP, -, -⟩ := S8.out.1.bk; have p0 : w8.cell? ⟨P, 0, none⟩ = some (.int .i64 B.n) := cell_of_box xP rfl; have p1 : w8.cell? ⟨P, 1, none⟩ = some (.slice ao B.orders.length co) := cell_of_box xP rfl; have p2 : w8.cell? ⟨P, 2, none⟩ = some (.slice al B.locked.length cl) := cell_of_box xP rfl; have p3 : w8.cell? ⟨P, 3, none⟩ = some (.slice ac B.occ.length cc) := cell_of_box xP rfl; have f0 : w8.frozen? ⟨P, 0, none⟩ = false := frozen_of_box xP; have f1 : w8.frozen? ⟨P, 1, none⟩ = false := frozen_of_box xP; have f2 : w8.frozen? ⟨P, 2, none⟩ = false := frozen_of_box xP; have f3 : w8.frozen? ⟨P, 3, none⟩ = false := frozen_of_box xP; have h0 : w8.cell? ⟨w4.heap.size, 0, none⟩ = some (.bool true) := cell_of_box S8.out.2.1 rfl; have h1 : w8.cell? ⟨w4.heap.size, 1, none⟩ = some (.int .i64 E.op) := cell_of_box S8.out.2.1 rfl; have h2 : w8.cell? ⟨w4.heap.size, 2, none⟩ = some (.int .i64 E.of_) := cell_of_box S8.out.2.1 rfl; have h3 : w8.cell? ⟨w4.heap.size, 3, none⟩ = some (.string E.holder) := cell_of_box S8.out.2.1 rfl; have h4 : w8.cell? ⟨w4.heap.size, 4, none⟩ = some (.int .i64 E.kind) := cell_of_box S8.out.2.1 rfl; have h5 : w8.cell? ⟨w4.heap.size, 5, none⟩ = some (.slice ad E.secs.length c) := cell_of_box S8.out.2.1 rfl; have h6 : w8.cell? ⟨w4.heap.size, 6, none⟩ = some (.string E.text) := cell_of_box S8.out.2.1 rfl; have d0 : w8.cell? ⟨w6.heap.size, 0, none⟩ = some (.int .i64 (m : Int)) := cell_of_box S8.out.2.2.2.1 rfl; have d1 : w8.cell? ⟨w6.heap.size, 1, none⟩ = some (.int .i64 (doP B E).2.n) := cell_of_box S8.out.2.2.2.1 rfl; have d2 : w8.cell? ⟨w6.heap.size, 2, none⟩ = some (.slice a7 (doP B E).2.orders.length c7) := cell_of_box S8.out.2.2.2.1 rfl; have d3 : w8.cell? ⟨w6.heap.size, 3, none⟩ = some (.slice l7 (doP B E).2.locked.length d7) := cell_of_box S8.out.2.2.2.1 rfl; have d4 : w8.cell? ⟨w6.heap.size, 4, none⟩ = some (.slice o7 (doP B E).2.occ.length f7) := cell_of_box S8.out.2.2.2.1 rfl; have zP8 := S8.out.1.sz; clear xP
    by_cases m1 : m = 1
    ·
     have HB1 : Hid (bkP B E = B ∧ saidP B E = Lib.decDigits m) := by
      have h1 : (doP B E).1 = 1 := by rw [HM.out, m1]; rfl
      refine ⟨?_, ?_⟩
      · unfold bkP; rw [if_pos h1]
      · unfold saidP; rw [if_neg (fun q => by rw [h1] at q; exact absurd q.1 (by decide)), HM.out]; rfl
     have t1 : ((m : Int) == 1) = true := by rw [m1]; rfl
     have t0 : ((m : Int) == 0) = false := beq_eq_false_iff_ne.2 (by omega); clear m1
     have S9 : Hid (ST w w8 P u6 R.2 l ∧ True) := by
      refine ⟨?_, trivial⟩; rw [HE.out.2]; show ST w w8 P u6 (bkP B E) l
      rw [HB1.out.1]; exact S8.out.1
     have HT9 : Hid (bl t8 = R.1) := by
      show bl t8 = R.1
      rw [HE.out.2]; exact S8.out.2.2.2.2.trans HB1.out.2.symm
     go_upto_region 22 with (fail)
     go_wp2_with (at_builtin; refine stand ?_)
     refine Stand.go ?_; clear p0 p1 p2 p3 f0 f1 f2 f3 h0 h1 h2 h3 h4 h5 h6 d0 d1 d2 d3 d4; have zW := S9.out.1.sz; have hsz9 : (t8 ++ ⟨#[10]⟩ : ByteArray).size = t8.size + 1 := by rw [ByteArray.size_append]; rfl
     have ht9 : t8.size = R.1.length := by rw [← bl_size, HT9.out]
     have hr9 := HRl.out; refine wpList_append_str rfl _ _ rfl (P + 1) u6 l.length (Lib.byteCells l) rfl S9.out.1.out (t8 ++ ⟨#[10]⟩) (by first | rfl | (simp [Act.eval]; done)) (by omega) (by omega) ?_; intro u7 w9 hown9 hg9
     have S9 : Hid (ST w w9 P u7 (foldP B0 (ls ++ [bl ln])).2 (foldP B0 (ls ++ [bl ln])).1) := by
      show ST w w9 P u7 _ _
      rw [HSn.out]; have := S9.out.1.push (t8 ++ ⟨#[10]⟩) hown9 hg9; rw [bl_append, HT9.out, ← List.append_assoc] at this; exact this
     clear hown9 hg9 hsz9 ht9 hr9; go_wp2; go_roundw
     case rel => exact ⟨k + 1, k + 1, ls ++ [bl ln], Nat.le_refl _, by omega, fun e => e, by go_num, by go_num, fun j j1 j2 => absurd j2 (by omega), HL2.out, by simp; omega, S9.out⟩
     case measure => simp [intOf]; omega
    have t1 : ((m : Int) == 1) = false := beq_eq_false_iff_ne.2 (by omega)
    have HBK : Hid (bkP B E = (doP B E).2) := by
     show bkP B E = _
     unfold bkP; rw [if_neg (by rw [HM.out]; omega)]
    obtain ⟨W9, hW9⟩ : ∃ W, W = put4 w8 P (.int .i64 (doP B E).2.n) (.slice a7 (doP B E).2.orders.length c7) (.slice l7 (doP B E).2.locked.length d7) (.slice o7 (doP B E).2.occ.length f7) := ⟨_, rfl⟩; have hW9' : (((w8.setCell ⟨P, 0, none⟩ (.int .i64 (doP B E).2.n)).setCell ⟨P, 1, none⟩ (.slice a7 (doP B E).2.orders.length c7)).setCell ⟨P, 2, none⟩ (.slice l7 (doP B E).2.locked.length d7)).setCell ⟨P, 3, none⟩ (.slice o7 (doP B E).2.occ.length f7) = W9 := hW9.symm
    have S9 : Hid (ST w W9 P u6 (bkP B E) l ∧ W9.heap[w4.heap.size]? = some (.cells #[.bool true, .int .i64 E.op, .int .i64 E.of_, .string E.holder, .int .i64 E.kind, .slice ad E.secs.length c, .string E.text] 46 (0, 0)) ∧ W9.heap[w6.heap.size]? = some (.cells #[.int .i64 (m : Int), .int .i64 (doP B E).2.n, .slice a7 (doP B E).2.orders.length c7, .slice l7 (doP B E).2.locked.length d7, .slice o7 (doP B E).2.occ.length f7] 39 (0, 0))) := by
     rw [hW9, HBK.out]; have f4 := put4_fr w8 P (.int .i64 (doP B E).2.n) (.slice a7 (doP B E).2.orders.length c7) (.slice l7 (doP B E).2.locked.length d7) (.slice o7 (doP B E).2.occ.length f7); exact ⟨S8.out.1.put S8.out.2.2.1 (by omega), (f4.block _ (by omega) (by omega)).trans S8.out.2.1, (f4.block _ (by omega) (by omega)).trans S8.out.2.2.2.1⟩
    have xP9 : W9.heap[P]? = some (.cells #[.int .i64 (doP B E).2.n, .slice a7 (doP B E).2.orders.length c7, .slice l7 (doP B E).2.locked.length d7, .slice o7 (doP B E).2.occ.length f7] 37 (0, 0)) := by
     rw [hW9]; obtain ⟨ao, co, al, cl, ac, cc, KB, xP, -, -⟩ := S8.out.1.bk; exact put4_box xP _ _ _ _
    clear hW9; have r0 : W9.cell? ⟨P, 0, none⟩ = some (.int .i64 (doP B E).2.n) := cell_of_box xP9 rfl; have r1 : W9.cell? ⟨P, 1, none⟩ = some (.slice a7 (doP B E).2.orders.length c7) := cell_of_box xP9 rfl; have r2 : W9.cell? ⟨P, 2, none⟩ = some (.slice l7 (doP B E).2.locked.length d7) := cell_of_box xP9 rfl; have r3 : W9.cell? ⟨P, 3, none⟩ = some (.slice o7 (doP B E).2.occ.length f7) := cell_of_box xP9 rfl; have s0 : W9.cell? ⟨w4.heap.size, 0, none⟩ = some (.bool true) := cell_of_box S9.out.2.1 rfl; have s1 : W9.cell? ⟨w4.heap.size, 1, none⟩ = some (.int .i64 E.op) := cell_of_box S9.out.2.1 rfl; have s2 : W9.cell? ⟨w4.heap.size, 2, none⟩ = some (.int .i64 E.of_) := cell_of_box S9.out.2.1 rfl; have s3 : W9.cell? ⟨w4.heap.size, 3, none⟩ = some (.string E.holder) := cell_of_box S9.out.2.1 rfl; have s4 : W9.cell? ⟨w4.heap.size, 4, none⟩ = some (.int .i64 E.kind) := cell_of_box S9.out.2.1 rfl; have s5 : W9.cell? ⟨w4.heap.size, 5, none⟩ = some (.slice ad E.secs.length c) := cell_of_box S9.out.2.1 rfl; have s6 : W9.cell? ⟨w4.heap.size, 6, none⟩ = some (.string E.text) := cell_of_box S9.out.2.1 rfl; have v0 : W9.cell? ⟨w6.heap.size, 0, none⟩ = some (.int .i64 (m : Int)) := cell_of_box S9.out.2.2 rfl; have v1 : W9.cell? ⟨w6.heap.size, 1, none⟩ = some (.int .i64 (doP B E).2.n) := cell_of_box S9.out.2.2 rfl; have v2 : W9.cell? ⟨w6.heap.size, 2, none⟩ = some (.slice a7 (doP B E).2.orders.length c7) := cell_of_box S9.out.2.2 rfl; have v3 : W9.cell? ⟨w6.heap.size, 3, none⟩ = some (.slice l7 (doP B E).2.locked.length d7) := cell_of_box S9.out.2.2 rfl; have v4 : W9.cell? ⟨w6.heap.size, 4, none⟩ = some (.slice o7 (doP B E).2.occ.length f7) := cell_of_box S9.out.2.2 rfl
    by_cases hgv : m = 0 ∧ E.op = 2
    ·
     have h00 : (doP B E).1 = 0 := by rw [HM.out, hgv.1]; rfl
     have t0 : ((m : Int) == 0) = true := by rw [hgv.1]; rfl
     have ho : E.op = 2 := hgv.2; have t2 : (E.op == 2) = true := by rw [ho]; rfl
     obtain ⟨j, hj, hjl⟩ := give_of h00 ho; rw [← HBK.out] at hjl; have HO : Hid ((doP B E).1 = 0 ∧ E.op = 2) := ⟨h00, ho⟩; have HJl : Hid (j < (bkP B E).orders.length) := hjl; have HRk : Hid (Right (bkP B E)) := right_bkP HRB.out E
     have HBt : Hid (BookAt W9 (.agg #[.int .i64 (doP B E).2.n, .slice a7 (doP B E).2.orders.length c7, .slice l7 (doP B E).2.locked.length d7, .slice o7 (doP B E).2.occ.length f7]) (bkP B E)) := by
      obtain ⟨ao, co, al, cl, ac, cc, KB, xP, hOB, -⟩ := S9.out.1.bk; rw [xP9] at xP; simp only [Option.some.injEq, Obj.cells.injEq, Array.mk.injEq, List.cons.injEq, Value.slice.injEq, and_true] at xP; rw [HBK.out] at hOB ⊢; obtain ⟨-, ⟨rfl, -, rfl⟩, ⟨rfl, -, rfl⟩, rfl, -, rfl⟩ := xP; exact hOB.bookAt
     have HTx : Hid (Calls Tryz.prog 52 #[(.agg #[.int .i64 (doP B E).2.n, .slice a7 (doP B E).2.orders.length c7, .slice l7 (doP B E).2.locked.length d7, .slice o7 (doP B E).2.occ.length f7]), .int .i64 (j : Int)] W9 fun e w' => RetO e (bkP B E) j ∧ Below W9.heap.size W9 w') := l1text_any _ (bkP B E) j W9 hjl HRk.out HBt.out; clear xP9 HBt h00 ho hgv hjl m1; have HJ : Hid (E.of_ = (j : Int)) := hj; rw [hj] at s2; clear hj
     go_wp2_with fail
     try rw [hW9']
     clear hW9'; refine HTx.out.mono ?_; rintro e w10 ⟨⟨t9, rfl, ht9o⟩, hb9⟩; have hTI : TextIs (bkP B E) (j : Int) (bl t9) := Or.inr ⟨HRk.out, j, rfl, HJl.out, ht9o⟩; have ht9b : t9.size ≤ 1000 := by rw [← bl_size]; have := textIs_le hTI; omega
     have HT9 : Hid (bl t9 = R.1) := by
      show bl t9 = R.1
      rw [HE.out.2]; show bl t9 = saidP B E
      unfold saidP; rw [if_pos HO.out, HJ.out, ordText_is hTI]
     have S10 : Hid (ST w w10 P u6 R.2 l ∧ True) := by
      refine ⟨?_, trivial⟩; rw [HE.out.2]; exact S9.out.1.below hb9
     clear hTI ht9o hb9 HTx p0 p1 p2 p3 f0 f1 f2 f3 h0 h1 h2 h3 h4 h5 h6 d0 d1 d2 d3 d4 r0 r1 r2 r3 s0 s1 s2 s3 s4 s5 s6 v0 v1 v2 v3 v4
     go_upto_region 22 with (fail)
     go_wp2_with (at_builtin; refine stand ?_)
     refine Stand.go ?_; have zW := S10.out.1.sz; have hsz9 : (t9 ++ ⟨#[10]⟩ : ByteArray).size = t9.size + 1 := by rw [ByteArray.size_append]; rfl
     have ht9 : t9.size = R.1.length := by rw [← bl_size, HT9.out]
     have hr9 := HRl.out; refine wpList_append_str rfl _ _ rfl (P + 1) u6 l.length (Lib.byteCells l) rfl S10.out.1.out (t9 ++ ⟨#[10]⟩) (by first | rfl | (simp [Act.eval]; done)) (by omega) (by omega) ?_; intro u7 w9 hown9 hg9
     have S9 : Hid (ST w w9 P u7 (foldP B0 (ls ++ [bl ln])).2 (foldP B0 (ls ++ [bl ln])).1) := by
      show ST w w9 P u7 _ _
      rw [HSn.out]; have := S10.out.1.push (t9 ++ ⟨#[10]⟩) hown9 hg9; rw [bl_append, HT9.out, ← List.append_assoc] at this; exact this
     clear hown9 hg9 hsz9 ht9 hr9; go_wp2; go_roundw
     case rel => exact ⟨k + 1, k + 1, ls ++ [bl ln], Nat.le_refl _, by omega, fun e => e, by go_num, by go_num, fun j j1 j2 => absurd j2 (by omega), HL2.out, by simp; omega, S9.out⟩
     case measure => simp [intOf]; omega
    ·
     have HO : Hid (saidP B E = Lib.decDigits m) := by
      show saidP B E = _
      unfold saidP; rw [if_neg (fun q => hgv ⟨by have := HM.out; omega, q.2⟩), HM.out]; rfl
     have HT9 : Hid (bl t8 = R.1) := by
      show bl t8 = R.1
      rw [HE.out.2]; exact S8.out.2.2.2.2.trans HO.out.symm
     have S10 : Hid (ST w W9 P u6 R.2 l ∧ True) := by
      refine ⟨?_, trivial⟩; rw [HE.out.2]; exact S9.out.1
     clear xP9
     by_cases m0 : m = 0
     ·
      have t0 : ((m : Int) == 0) = true := by rw [m0]; rfl
      have t2 : (E.op == 2) = false := beq_eq_false_iff_ne.2 (fun e => hgv ⟨m0, e⟩); clear m0 hgv m1
      go_upto_region 22 with (fail)
      go_wp2_with (at_builtin; refine stand ?_)
      refine Stand.go ?_
      try rw [hW9']
      clear hW9' p0 p1 p2 p3 f0 f1 f2 f3 h0 h1 h2 h3 h4 h5 h6 d0 d1 d2 d3 d4 r0 r1 r2 r3 s0 s1 s2 s3 s4 s5 s6 v0 v1 v2 v3 v4; have zW := S10.out.1.sz; have hsz9 : (t8 ++ ⟨#[10]⟩ : ByteArray).size = t8.size + 1 := by rw [ByteArray.size_append]; rfl
      have ht9 : t8.size = R.1.length := by rw [← bl_size, HT9.out]
      have hr9 := HRl.out; refine wpList_append_str rfl _ _ rfl (P + 1) u6 l.length (Lib.byteCells l) rfl S10.out.1.out (t8 ++ ⟨#[10]⟩) (by first | rfl | (simp [Act.eval]; done)) (by omega) (by omega) ?_; intro u7 w9 hown9 hg9
      have S9 : Hid (ST w w9 P u7 (foldP B0 (ls ++ [bl ln])).2 (foldP B0 (ls ++ [bl ln])).1) := by
       show ST w w9 P u7 _ _
       rw [HSn.out]; have := S10.out.1.push (t8 ++ ⟨#[10]⟩) hown9 hg9; rw [bl_append, HT9.out, ← List.append_assoc] at this; exact this
      clear hown9 hg9 hsz9 ht9 hr9; go_wp2; go_roundw
      case rel => exact ⟨k + 1, k + 1, ls ++ [bl ln], Nat.le_refl _, by omega, fun e => e, by go_num, by go_num, fun j j1 j2 => absurd j2 (by omega), HL2.out, by simp; omega, S9.out⟩
      case measure => simp [intOf]; omega
     ·
      have t0 : ((m : Int) == 0) = false := beq_eq_false_iff_ne.2 (by omega); clear m0 hgv m1
      go_upto_region 22 with (fail)
      go_wp2_with (at_builtin; refine stand ?_)
      refine Stand.go ?_
      try rw [hW9']
      clear hW9' p0 p1 p2 p3 f0 f1 f2 f3 h0 h1 h2 h3 h4 h5 h6 d0 d1 d2 d3 d4 r0 r1 r2 r3 s0 s1 s2 s3 s4 s5 s6 v0 v1 v2 v3 v4; have zW := S10.out.1.sz; have hsz9 : (t8 ++ ⟨#[10]⟩ : ByteArray).size = t8.size + 1 := by rw [ByteArray.size_append]; rfl
      have ht9 : t8.size = R.1.length := by rw [← bl_size, HT9.out]
      have hr9 := HRl.out; refine wpList_append_str rfl _ _ rfl (P + 1) u6 l.length (Lib.byteCells l) rfl S10.out.1.out (t8 ++ ⟨#[10]⟩) (by first | rfl | (simp [Act.eval]; done)) (by omega) (by omega) ?_; intro u7 w9 hown9 hg9
      have S9 : Hid (ST w w9 P u7 (foldP B0 (ls ++ [bl ln])).2 (foldP B0 (ls ++ [bl ln])).1) := by
       show ST w w9 P u7 _ _
       rw [HSn.out]; have := S10.out.1.push (t8 ++ ⟨#[10]⟩) hown9 hg9; rw [bl_append, HT9.out, ← List.append_assoc] at this; exact this
      clear hown9 hg9 hsz9 ht9 hr9; go_wp2; go_roundw
      case rel => exact ⟨k + 1, k + 1, ls ++ [bl ln], Nat.le_refl _, by omega, fun e => e, by go_num, by go_num, fun j j1 j2 => absurd j2 (by omega), HL2.out, by simp; omega, S9.out⟩
      case measure => simp [intOf]; omega
   ·
    have HN : Hid (R = (whatT, B)) := by
     show R = _
     rw [← HRe.out]; unfold replyP; rw [heardOf_no hno]
    clear hno HRe
    go_upto_region 22 with (fail)
    obtain ⟨W5, hW5⟩ : ∃ W, W = w4.alloc (.cells #[.bool false, .int .i64 0, .int .i64 0, .string ⟨#[]⟩, .int .i64 0, .slice none 0 0, .string ⟨#[]⟩] 46) := ⟨_, rfl⟩
    have S5 : Hid (ST w W5 P u6 R.2 l ∧ W5.heap[w4.heap.size]? = some (.cells #[.bool false, .int .i64 0, .int .i64 0, .string ⟨#[]⟩, .int .i64 0, .slice none 0 0, .string ⟨#[]⟩] 46 (0, 0))) := by
     rw [hW5, HN.out]; exact ⟨S4.out.below (below1 _ _), Deep.blk_alloc_new _ _⟩
    have hW5' : w4.alloc (.cells #[.bool false, .int .i64 0, .int .i64 0, .string ⟨#[]⟩, .int .i64 0, .slice none 0 0, .string ⟨#[]⟩] 46) = W5 := hW5.symm
    have HT9 : Hid (bl (⟨#[119, 104, 97, 116]⟩ : ByteArray) = R.1) := by
     show _ = R.1
     rw [HN.out]; rfl
    rw [hW5']; clear hW5 hW5'
    go_wp2_with (at_builtin; refine stand ?_)
    refine Stand.go ?_; have zW := S5.out.1.sz; have hsz9 : ((⟨#[119, 104, 97, 116]⟩ : ByteArray) ++ ⟨#[10]⟩ : ByteArray).size = (⟨#[119, 104, 97, 116]⟩ : ByteArray).size + 1 := by rw [ByteArray.size_append]; rfl
    have ht9 : (⟨#[119, 104, 97, 116]⟩ : ByteArray).size = R.1.length := by rw [← bl_size, HT9.out]
    have hr9 := HRl.out; refine wpList_append_str rfl _ _ rfl (P + 1) u6 l.length (Lib.byteCells l) rfl S5.out.1.out ((⟨#[119, 104, 97, 116]⟩ : ByteArray) ++ ⟨#[10]⟩) (by first | rfl | (simp [Act.eval]; done)) (by omega) (by omega) ?_; intro u7 w9 hown9 hg9
    have S9 : Hid (ST w w9 P u7 (foldP B0 (ls ++ [bl ln])).2 (foldP B0 (ls ++ [bl ln])).1) := by
     show ST w w9 P u7 _ _
     rw [HSn.out]; have := S5.out.1.push ((⟨#[119, 104, 97, 116]⟩ : ByteArray) ++ ⟨#[10]⟩) hown9 hg9; rw [bl_append, HT9.out, ← List.append_assoc] at this; exact this
    clear hown9 hg9 hsz9 ht9 hr9; go_wp2; go_roundw
    case rel => exact ⟨k + 1, k + 1, ls ++ [bl ln], Nat.le_refl _, by omega, fun e => e, by go_num, by go_num, fun j j1 j2 => absurd j2 (by omega), HL2.out, by simp; omega, S9.out⟩
    case measure => simp [intOf]; omega
end Go.Proofs.YtdlaekjofgbjcaaGreatDoor
