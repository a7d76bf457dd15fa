/-
  The contract of spec.Answer. Mine, by program (wip/sans.py), by template (wip/gen.py).
-/
import Derived.Test.YtdlaekjofgbjcaaGreatDoorAnsY
import Derived.Test.YtdlaekjofgbjcaaGreatDoorHearF
import Derived.Test.YtdlaekjofgbjcaaGreatDoorSDo2
import Derived.Laws.BytesArg
import Derived.Deep.Cut
namespace Go.Proofs.YtdlaekjofgbjcaaGreatDoor
open Go.RowKit
noncomputable def ansP (n : Int) (l : List UInt8) : List UInt8 := if (1 ≤ n ∧ n ≤ 60) ∧ l.length ≤ 65536 then (foldP (beginBk n) (linesOf l)).1 else []
def RetA (e : Ending) (n : Int) (l : List UInt8) : Prop := ∃ t, e = .returned (.string t) ∧ bl t = ansP n l
theorem begin_nz {n : Int} : ((beginBk n).n = 0 ↔ ¬ (1 ≤ n ∧ n ≤ 60)) := by
  unfold beginBk
  split
  · next h => constructor
              · intro e; simp only at e; omega
              · intro e; exact absurd h e
  · next h => simp [h]
theorem conv_own {w : World} {lo : Nat} {u : Value} {l : List UInt8} (h : w.ownsRow lo 5 1 u l.length (Lib.byteCells l)) : (convert 22 9 u).run Tryz.prog w = .ok (.string (mkB l)) w := by
  obtain ⟨h1, h2⟩ := h
  rcases h2 with ⟨rfl, h0⟩ | ⟨g, cap, cur, rfl, h3, h4, h5, h6, h7, h8⟩
  · obtain rfl : l = [] := List.length_eq_zero_iff.1 h0
    exact run_convert_bytes_nil (w := w) 22 5 Tryz.underlying22 Tryz.underlying5 0 0 9 Tryz.underlying9
  · refine run_convert_bytes_back w 22 9 5 ⟨g, 0, none⟩ cap l Tryz.underlying22 Tryz.underlying5 Tryz.underlying9 (fun j hj => ?_)
    rw [add0]
    refine cell_of_box h4 ?_
    have e : (cur.toList.take (l.length * 1))[j]? = (Lib.byteCells l)[j]? := by rw [h8]
    rw [List.getElem?_take, if_pos (by omega)] at e
    rw [← Array.getElem?_toList, e]
    simp [Lib.byteCells, hj]
structure ST (w wr : World) (P : Nat) (u : Value) (B : Bk) (l : List UInt8) : Prop where
  bk : BkVar wr w.heap.size P B
  out : wr.ownsRow (P + 1) 5 1 u l.length (Lib.byteCells l)
  bel : Below w.heap.size w wr
  low : w.heap.size ≤ P
theorem ST.sz {w wr : World} {P : Nat} {u : Value} {B : Bk} {l : List UInt8} (h : ST w wr P u B l) : P < wr.heap.size := by
  obtain ⟨_, _, _, _, _, _, _, h1, _⟩ := h.bk
  exact (Array.getElem?_eq_some_iff.1 h1).1
theorem ST.below {w wr w' : World} {P : Nat} {u : Value} {B : Bk} {l : List UInt8} (h : ST w wr P u B l) (hb : Below wr.heap.size wr w') : ST w w' P u B l :=
  ⟨h.bk.below hb, ownsRow_below h.out hb, h.bel.trans (hb.mono (Nat.le_trans h.low (Nat.le_of_lt h.sz))), h.low⟩
theorem ST.push {w wr w' : World} {P : Nat} {u u' : Value} {B : Bk} {l : List UInt8} (h : ST w wr P u B l) (t : ByteArray) (h2 : w'.ownsRow (P + 1) 5 1 u' (l.length + t.size) (Lib.byteCells l ++ Lib.strCells t)) (hg : wr.grownBy w' u.ownBlock) : ST w w' P u' B (l ++ bl t) := by
  have f1 : Fr (fun x => u.ownBlock = some x) wr w' := ⟨hg.os, hg.tape, hg.output, hg.size, fun j hj hn => hg.block j hj (fun e => hn e.symm)⟩
  have hP := h.sz
  have hlow := h.low
  refine ⟨h.bk.fr f1 (fun b e => ?_), ?_, h.bel.trans (f1.below (by omega) (fun i e => by have := (owns_lt h.out e).1; omega)), h.low⟩
  · obtain ⟨h1, q⟩ := h.out
    rcases q with ⟨rfl, _⟩ | ⟨g, cap, cur, rfl, _, hh, _⟩
    · cases e
    · simp only [Value.ownBlock, Option.some.injEq] at e
      subst e
      exact ⟨_, _, hh⟩
  · have e1 : (l ++ bl t).length = l.length + t.size := by rw [List.length_append, bl_size]
    have e2 : Lib.byteCells (l ++ bl t) = Lib.byteCells l ++ Lib.strCells t := by simp [Lib.byteCells, Lib.strCells, bl]
    rw [e1, e2]
    exact h2
theorem ST.put {w wr : World} {P : Nat} {u : Value} {B B' : Bk} {l : List UInt8} (h : ST w wr P u B l) {ao al ac : Option Addr} {co cl cc lo : Nat} {K : Blk} (hO : OwnBook wr lo (.agg #[.int .i64 B'.n, .slice ao B'.orders.length co, .slice al B'.locked.length cl, .slice ac B'.occ.length cc]) B' K) (hl : P < lo) :
    ST w (put4 wr P (.int .i64 B'.n) (.slice ao B'.orders.length co) (.slice al B'.locked.length cl) (.slice ac B'.occ.length cc)) P u B' l := by
  have hP := h.sz
  have hlow := h.low
  obtain ⟨_, _, _, _, _, _, _, h1, _⟩ := h.bk
  have f4 := put4_fr wr P (.int .i64 B'.n) (.slice ao B'.orders.length co) (.slice al B'.locked.length cl) (.slice ac B'.occ.length cc)
  have p4 := put4_box h1 (.int .i64 B'.n) (.slice ao B'.orders.length co) (.slice al B'.locked.length cl) (.slice ac B'.occ.length cc)
  exact ⟨⟨ao, co, al, cl, ac, cc, K, p4, (hO.fr f4 (fun b hb e => by have := hO.blocks_low hb; omega)).mono (by omega), fun b hb e => by have := hO.blocks_low hb; omega⟩,
    owns_of_block h.out (fun g hg => f4.block g (owns_lt h.out hg).2 (by have := (owns_lt h.out hg).1; omega)), h.bel.trans (f4.below (by omega) (fun i e => by omega)), h.low⟩
theorem line_over {s : ByteArray} {a k : Nat} (h1 : a ≤ k) (h2 : k ≤ s.size) (hno : ∀ j, a ≤ j → j < k → chr s j ≠ 10) (hk : k < s.size → chr s k = 10) :
    linesOf ((bl s).drop a) = (if bl (s.extract a k) = [] then [] else [bl (s.extract a k)]) ++ linesOf ((bl s).drop (k + 1)) := by
  have hn : ∀ b ∈ bl (s.extract a k), b ≠ 10 := fun b hb e => by
    rw [bl_extract] at hb
    obtain ⟨i, hi, rfl⟩ := List.getElem_of_mem hb
    have hi2 : i < k - a := by simp only [List.length_take] at hi; omega
    rw [List.getElem_take, List.getElem_drop] at e
    have hk2 : a + i < (bl s).length := by rw [bl_size]; omega
    have ec : chr s (a + i) = ((bl s)[a + i]).toNat := by
      unfold chr
      have e : s.data.toList[a + i]? = some ((bl s)[a + i]) := List.getElem?_eq_getElem hk2
      rw [List.getD_eq_getElem?_getD, e]
      rfl
    refine hno (a + i) (by omega) (by omega) ?_
    rw [ec, e]
    rfl
  have e : (bl s).drop a = bl (s.extract a k) ++ (bl s).drop k := by
    rw [bl_extract]
    have := (List.take_append_drop (k - a) ((bl s).drop a)).symm
    rw [List.drop_drop, show a + (k - a) = k by omega] at this
    exact this
  by_cases hlt : k < s.size
  · obtain ⟨b, e1, e2, -⟩ := drop_chr s k hlt
    have hb : b = 10 := by
      have := hk hlt
      rw [← e2] at this
      exact UInt8.toNat_inj.1 this
    rw [e, e1, hb, linesOf_hit hn]
  · have e3 : (bl s).drop k = [] := List.drop_eq_nil_of_le (by rw [bl_size]; omega)
    have e4 : (bl s).drop (k + 1) = [] := List.drop_eq_nil_of_le (by rw [bl_size]; omega)
    rw [e, e3, e4, List.append_nil, linesOf_end hn, linesOf_nil, List.append_nil]
end Go.Proofs.YtdlaekjofgbjcaaGreatDoor