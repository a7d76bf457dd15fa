import Derived.Test.YtdlaekjofgbjcaaGreatDoorEvTo
import Derived.Test.YtdlaekjofgbjcaaGreatDoorBaseZ
import Derived.Test.YtdlaekjofgbjcaaGreatDoorDonesZ
import Derived.Test.YtdlaekjofgbjcaaGreatDoorCurZ
import Derived.Test.YtdlaekjofgbjcaaGreatDoorSCopy
import Derived.Test.YtdlaekjofgbjcaaGreatDoorIDoZ
import Derived.Test.YtdlaekjofgbjcaaGreatDoorSDoZ
/-
 Slices of events: what lies in memory; the contracts of laws.szEventS, toEventS, eqEventS. Mine, by template (wip/gen.py).
-/
namespace Go.Proofs.YtdlaekjofgbjcaaGreatDoor
open Go.RowKit
def Ev.zero : Ev := ⟨0, 0, ByteArray.empty, 0, [], ByteArray.empty⟩
structure EvCells (w : World) (b o : Nat) (x : Ev) (ad : Option Addr) (c : Nat) : Prop where
 c0 : w.cell? ⟨b, o, none⟩ = some (.int .i64 x.op)
 c1 : w.cell? ⟨b, o + 1, none⟩ = some (.int .i64 x.of_)
 c2 : w.cell? ⟨b, o + 2, none⟩ = some (.string x.holder)
 c3 : w.cell? ⟨b, o + 3, none⟩ = some (.int .i64 x.kind)
 c4 : w.cell? ⟨b, o + 4, none⟩ = some (.slice ad x.secs.length c)
 c5 : w.cell? ⟨b, o + 5, none⟩ = some (.string x.text)
 secs : Cells w ad x.secs.length (iV x.secs)
theorem EvCells.below {w w' : World} {b o : Nat} {x : Ev} {ad : Option Addr} {c : Nat} (h : EvCells w b o x ad c) (hb : Below w.heap.size w w') : EvCells w' b o x ad c := by
 have hl : b < w.heap.size := World.block_lt_of_cell? _ _ h.c0; exact ⟨(hb.cell (p := ⟨b, o, none⟩) hl).trans h.c0, (hb.cell (p := ⟨b, o + 1, none⟩) hl).trans h.c1, (hb.cell (p := ⟨b, o + 2, none⟩) hl).trans h.c2, (hb.cell (p := ⟨b, o + 3, none⟩) hl).trans h.c3, (hb.cell (p := ⟨b, o + 4, none⟩) hl).trans h.c4, (hb.cell (p := ⟨b, o + 5, none⟩) hl).trans h.c5, h.secs.below hb⟩
def EventsAt (w : World) (ad : Option Addr) (n : Nat) (X : Nat → Ev) : Prop :=
 ∃ b o, (0 < n → ad = some ⟨b, o, none⟩) ∧ ∀ i, i < n → ∃ sa sc, EvCells w b (o + i * 6) (X i) sa sc
theorem EventsAt.below {w w' : World} {ad : Option Addr} {n : Nat} {X : Nat → Ev} (h : EventsAt w ad n X) (hb : Below w.heap.size w w') : EventsAt w' ad n X := by
 obtain ⟨b, o, h1, h2⟩ := h; exact ⟨b, o, h1, fun i hi => by obtain ⟨sa, sc, h3⟩ := h2 i hi; exact ⟨sa, sc, h3.below hb⟩⟩
end Go.Proofs.YtdlaekjofgbjcaaGreatDoor
/-
 Events appended one by one. Mine, by template (wip/gen.py).
-/
namespace Go.Proofs.YtdlaekjofgbjcaaGreatDoor
open Go.RowKit
def evCell (x : Ev) (a : Option Addr) (c : Nat) : Nat → Value
 | 0 => .int .i64 x.op
 | 1 => .int .i64 x.of_
 | 2 => .string x.holder
 | 3 => .int .i64 x.kind
 | 4 => .slice a x.secs.length c
 | _ => .string x.text
def cellsE (x : Ev) (a : Option Addr) (c : Nat) : List Value := [.int .i64 x.op, .int .i64 x.of_, .string x.holder, .int .i64 x.kind, .slice a x.secs.length c, .string x.text]
def evCells (X : Nat → Ev) (sa : Nat → Option Addr) (sc : Nat → Nat) (j : Nat) : Value := evCell (X (j / 6)) (sa (j / 6)) (sc (j / 6)) (j % 6)
def flatE (X : Nat → Ev) (sa : Nat → Option Addr) (sc : Nat → Nat) (n : Nat) : List Value := (List.range (n * 6)).map (evCells X sa sc)
theorem flatE_succ (X : Nat → Ev) (sa : Nat → Option Addr) (sc : Nat → Nat) (n : Nat) (x : Ev) (a : Option Addr) (c : Nat) :
  flatE (put1 X n x) (put1 sa n a) (put1 sc n c) (n + 1) = flatE X sa sc n ++ cellsE x a c := by
 unfold flatE; rw [show (n + 1) * 6 = n * 6 + 6 by omega, List.range_add, List.map_append]
 congr 1
 ·
  refine List.map_congr_left (fun j hj => ?_); have hj' : j < n * 6 := List.mem_range.1 hj; unfold evCells; rw [put1_old X n x (i := j / 6) (by omega), put1_old sa n a (i := j / 6) (by omega), put1_old sc n c (i := j / 6) (by omega)]
 ·
  have d : ∀ r, r < 6 → (n * 6 + r) / 6 = n ∧ (n * 6 + r) % 6 = r := fun r hr => by omega
  have g : ∀ r, r < 6 → evCells (put1 X n x) (put1 sa n a) (put1 sc n c) (n * 6 + r) = evCell x a c r := fun r hr => by
   unfold evCells; rw [(d r hr).1, (d r hr).2, put1_new, put1_new, put1_new]
  rw [show List.range 6 = [0, 1, 2, 3, 4, 5] from rfl]; simp only [List.map_cons, List.map_nil]; rw [g 0 (by omega), g 1 (by omega), g 2 (by omega), g 3 (by omega), g 4 (by omega), g 5 (by omega)]; rfl
structure RowEvs (w : World) (lo : Nat) (u : Value) (n : Nat) (X : Nat → Ev) (sa : Nat → Option Addr) (sc : Nat → Nat) : Prop where
 row : w.ownsRow lo 32 6 u n (flatE X sa sc n)
 own : ∀ i, i < n → w.ownsRow lo 3 1 (.slice (sa i) (X i).secs.length (sc i)) (X i).secs.length ((X i).secs.map (Value.int .i64))
 dis : ∀ i, i < n → ∀ x, (Value.slice (sa i) (X i).secs.length (sc i)).ownBlock = some x → u.ownBlock ≠ some x
theorem rowEvs_nil (w : World) (lo : Nat) (X : Nat → Ev) (sa : Nat → Option Addr) (sc : Nat → Nat) : RowEvs w lo (.slice none 0 0) 0 X sa sc :=
 ⟨World.ownsRow_nil _ _ _ _, fun i hi => absurd hi (by omega), fun i hi => absurd hi (by omega)⟩
theorem RowEvs.fr {w w' : World} {lo : Nat} {u : Value} {n : Nat} {X : Nat → Ev} {sa : Nat → Option Addr} {sc : Nat → Nat} (h : RowEvs w lo u n X sa sc) {S : Nat → Prop} (hf : Fr S w w') (hs : ∀ x, lo ≤ x → ¬ S x) : RowEvs w' lo u n X sa sc :=
 ⟨owns_of_block h.row (fun g hg => hf.block g (owns_lt h.row hg).2 (hs g (owns_lt h.row hg).1)), fun i hi => owns_of_block (h.own i hi) (fun g hg => hf.block g (owns_lt (h.own i hi) hg).2 (hs g (owns_lt (h.own i hi) hg).1)), h.dis⟩
theorem RowEvs.below {w w' : World} {lo : Nat} {u : Value} {n : Nat} {X : Nat → Ev} {sa : Nat → Option Addr} {sc : Nat → Nat} (h : RowEvs w lo u n X sa sc) (hb : Below w.heap.size w w') : RowEvs w' lo u n X sa sc :=
 ⟨owns_below h.row hb, fun i hi => owns_below (h.own i hi) hb, h.dis⟩
theorem RowEvs.push {w w2 : World} {lo : Nat} {u u2 : Value} {n : Nat} {X : Nat → Ev} {sa : Nat → Option Addr} {sc : Nat → Nat} (h : RowEvs w lo u n X sa sc) (x : Ev) (a : Option Addr) (c : Nat)
  (hx : w.ownsRow lo 3 1 (.slice a x.secs.length c) x.secs.length (x.secs.map (Value.int .i64))) (hd : ∀ g, (Value.slice a x.secs.length c).ownBlock = some g → u.ownBlock ≠ some g)
  (h2 : w2.ownsRow lo 32 6 u2 (n + 1) (flatE X sa sc n ++ cellsE x a c)) (hg : w.grownBy w2 u.ownBlock) (hk : u2.ownBlock = u.ownBlock ∨ u2.ownBlock = some w.heap.size) :
  RowEvs w2 lo u2 (n + 1) (put1 X n x) (put1 sa n a) (put1 sc n c) := by
 have hf : Fr (fun x => u.ownBlock = some x) w w2 := ⟨hg.os, hg.tape, hg.output, hg.size, fun k hk' hn => hg.block k hk' (fun e => hn e.symm)⟩
 have new : ∀ x, x < w.heap.size → u.ownBlock ≠ some x → u2.ownBlock ≠ some x := fun x hx hu => by
  rcases hk with e | e
  · rw [e]; exact hu
  · rw [e]; simp only [ne_eq, Option.some.injEq]; omega
 refine ⟨by rw [flatE_succ]; exact h2, fun i hi => ?_, fun i hi y hy => ?_⟩
 ·
  by_cases ei : i = n
  ·
   subst ei; rw [put1_new, put1_new, put1_new]; exact owns_of_block hx (fun g hg' => hf.block g (owns_lt hx hg').2 (hd g hg'))
  ·
   have hi' : i < n := by omega
   rw [put1_old _ _ _ hi', put1_old _ _ _ hi', put1_old _ _ _ hi']; exact owns_of_block (h.own i hi') (fun g hg' => hf.block g (owns_lt (h.own i hi') hg').2 (h.dis i hi' g hg'))
 ·
  by_cases ei : i = n
  ·
   subst ei; rw [put1_new, put1_new, put1_new] at hy; exact new y (owns_lt hx hy).2 (hd y hy)
  ·
   have hi' : i < n := by omega
   rw [put1_old _ _ _ hi', put1_old _ _ _ hi', put1_old _ _ _ hi'] at hy; exact new y (owns_lt (h.own i hi') hy).2 (h.dis i hi' y hy)
theorem cells_of_owns {w : World} {lo : Nat} {a : Option Addr} {c : Nat} {l : List Int} (h : w.ownsRow lo 3 1 (.slice a l.length c) l.length (l.map (Value.int .i64))) : Cells w a l.length (iV l) := by
 have h' : w.ownsRow lo 3 1 (.slice a l.length c) l.length ((List.range (l.length * 1)).map (iV l)) := by
  have e : (List.range (l.length * 1)).map (iV l) = l.map (Value.int .i64) := by
   refine List.ext_getElem? (fun i => ?_)
   by_cases hi : i < l.length
   · simp [iV, hi]
   · simp [hi]
  rw [e]; exact h
 obtain ⟨ad, c', G, hv, hp⟩ := pre_of_owns h'; simp only [Value.slice.injEq, true_and] at hv; obtain ⟨rfl, rfl⟩ := hv; refine ⟨G, 0, fun p => (hp p).1, fun i hi => ?_⟩; have := ((hp (by omega)).2.2.1).cell (i := i) (by omega)
 simpa using this
theorem RowEvs.done {w : World} {lo : Nat} {u : Value} {n : Nat} {X : Nat → Ev} {sa : Nat → Option Addr} {sc : Nat → Nat} (h : RowEvs w lo u n X sa sc) : ∃ ad c, u = .slice ad n c ∧ EventsAt w ad n X := by
 obtain ⟨ad, c, G, hv, hp⟩ := pre_of_owns h.row; refine ⟨ad, c, hv, G, 0, fun p => (hp p).1, fun i hi => ⟨sa i, sc i, ?_⟩⟩; have pr := (hp (by omega)).2.2.1
 have d : ∀ r, r < 6 → w.cell? ⟨G, 0 + i * 6 + r, none⟩ = some (evCell (X i) (sa i) (sc i) r) := fun r hr => by
  have q := pr.cell (i := i * 6 + r) (by omega); have e1 : (i * 6 + r) / 6 = i := by omega
  have e2 : (i * 6 + r) % 6 = r := by omega
  unfold evCells at q; rw [e1, e2] at q; rw [Nat.zero_add]; exact q
 exact ⟨d 0 (by omega), d 1 (by omega), d 2 (by omega), d 3 (by omega), d 4 (by omega), d 5 (by omega), cells_of_owns (h.own i hi)⟩
end Go.Proofs.YtdlaekjofgbjcaaGreatDoor
/-
 What is kept along Run's loop, in both programs. Mine, by template (wip/gen.py).
-/
namespace Go.Proofs.YtdlaekjofgbjcaaGreatDoor
open Go.RowKit
theorem OwnDones.mono {w : World} {lo lo' n : Nat} {C : Nat → Int} {R : Nat → Bk} {G : Nat} {s : Nat → Sl} {K : Nat → Blk} (h : OwnDones w lo n C R G s K) (hl : lo' ≤ lo) : OwnDones w lo' n C R G s K :=
 ⟨h.row, fun p => Nat.le_trans hl (h.low p), fun i hi => (h.own i hi).mono hl, h.dis, h.apart⟩
theorem RowDones.fr {w w' : World} {lo : Nat} {u : Value} {n : Nat} {C : Nat → Int} {R : Nat → Bk} {s : Nat → Sl} {K : Nat → Blk} (h : RowDones w lo u n C R s K) {S : Nat → Prop} (hf : Fr S w w') (hs : ∀ x, lo ≤ x → ¬ S x) : RowDones w' lo u n C R s K :=
 ⟨owns_of_block h.row (fun g hg => hf.block g (owns_lt h.row hg).2 (hs g (owns_lt h.row hg).1)), fun i hi => (h.own i hi).fr hf (fun b hb => hs b ((h.own i hi).blocks_low hb)), h.dis, h.apart⟩
structure RunInv (w wr : World) (P lo : Nat) (u : Value) (k : Nat) (B : Bk) (X : Nat → Ev) (sl : Nat → Sl) (K : Nat → Blk) (s : Sl) (Kb : Blk) : Prop where
 bel : Below w.heap.size w wr
 box : wr.heap[P]? = some (.cells #[.int .i64 (rB B X k).n, .slice s.ao (rB B X k).orders.length s.co, .slice s.al (rB B X k).locked.length s.cl, .slice s.ac (rB B X k).occ.length s.cc] 37 (0, 0))
 own : OwnBook wr w.heap.size (bookV (rB B X k) s) (rB B X k) Kb
 dis : ∀ x, bookBlocks (rB B X k) Kb x → u.ownBlock ≠ some x ∧ x ≠ P
 row : RowDones wr lo u k (rC B X) (fun i => rB B X (i + 1)) sl K
 wP : w.heap.size ≤ P
 pl : P < lo
 lw : lo ≤ wr.heap.size
theorem RunInv.below {w wr w' : World} {P lo : Nat} {u : Value} {k : Nat} {B : Bk} {X : Nat → Ev} {sl : Nat → Sl} {K : Nat → Blk} {s : Sl} {Kb : Blk} (h : RunInv w wr P lo u k B X sl K s Kb) (hb : Below wr.heap.size wr w') : RunInv w w' P lo u k B X sl K s Kb :=
 ⟨below_trans h.bel h.bel.size hb, (hb.block _ (by have := h.pl; have := h.lw; omega)).trans h.box, h.own.below hb, h.dis, h.row.below hb, h.wP, h.pl, Nat.le_trans h.lw hb.size⟩
def putBook (y : World) (P : Nat) (B : Bk) (s : Sl) : World := (((y.setCell ⟨P, 0, none⟩ (.int .i64 B.n)).setCell ⟨P, 1, none⟩ (.slice s.ao B.orders.length s.co)).setCell ⟨P, 2, none⟩ (.slice s.al B.locked.length s.cl)).setCell ⟨P, 3, none⟩ (.slice s.ac B.occ.length s.cc)
theorem putBook_fr (y : World) (P : Nat) (B : Bk) (s : Sl) : Fr (fun x => x = P) y (putBook y P B s) := fr_one (fr_one (fr_one (fr_one (Fr.refl _ _))))
theorem putBook_box {y : World} {P : Nat} {B : Bk} {s : Sl} {z0 z1 z2 z3 : Value} (h : y.heap[P]? = some (.cells #[z0, z1, z2, z3] 37 (0, 0))) : (putBook y P B s).heap[P]? = some (.cells #[.int .i64 B.n, .slice s.ao B.orders.length s.co, .slice s.al B.locked.length s.cl, .slice s.ac B.occ.length s.cc] 37 (0, 0)) :=
 (box_set (box_set (box_set (box_set h _) _) _) _).trans rfl
theorem RunInv.step {w wr V wU : World} {P lo : Nat} {u u2 : Value} {k : Nat} {B : Bk} {X : Nat → Ev} {sl : Nat → Sl} {K : Nat → Blk} {s : Sl} {Kb : Blk} (h : RunInv w wr P lo u k B X sl K s Kb) (hf : Fr (fun x => x = P) wr V) {s' : Sl} {K' : Blk} {R : Bk} (hR : rB B X (k + 1) = R) {c : Int} (hc : rC B X k = c)
  (yP : V.heap[P]? = some (.cells #[.int .i64 R.n, .slice s'.ao R.orders.length s'.co, .slice s'.al R.locked.length s'.cl, .slice s'.ac R.occ.length s'.cc] 37 (0, 0)))
  (hB : OwnBook V wr.heap.size (bookV R s') R K')
  (h2 : wU.ownsRow lo 39 5 u2 (k + 1) (flatD (rC B X) (fun i => rB B X (i + 1)) sl k ++ cellsD c R s')) (hg : V.grownBy wU u.ownBlock) (hk : u2.ownBlock = u.ownBlock ∨ u2.ownBlock = some V.heap.size) :
  RunInv w wU P lo u2 (k + 1) B X (put1 sl k s') (put1 K k K') s' K' := by
 subst hR; subst hc; have hw := h.wP; have hp := h.pl; have hl := h.lw; have hz := hf.size; have hlow : ∀ x, bookBlocks (rB B X (k + 1)) K' x → wr.heap.size ≤ x ∧ x < V.heap.size := fun x hx => ⟨hB.blocks_low hx, hB.blocks_lt hx⟩; have ub : ∀ g, u.ownBlock = some g → lo ≤ g ∧ g < wr.heap.size := fun g hg => owns_lt h.row.row hg; have rD : RowDones V lo u k (rC B X) (fun i => rB B X (i + 1)) sl K := h.row.fr hf (fun x hx e => by omega); have oD : OwnBook V lo (bookV (rB B X (k + 1)) s') (rB B X (k + 1)) K' := hB.mono hl; have hgf : Fr (fun x => u.ownBlock = some x) V wU := ⟨hg.os, hg.tape, hg.output, hg.size, fun j hj hn => hg.block j hj (fun e => hn e.symm)⟩; have push := rD.push (rC B X k) (rB B X (k + 1)) s' K' oD (fun x hx e => by have := (hlow x hx).1; have := (ub x e).2; omega) (fun i hi x hx hx' => by have := (hlow x hx').1; have := (h.row.own i hi).blocks_lt hx; omega) h2 hg hk; rw [put1_same, show put1 (fun i => rB B X (i + 1)) k (rB B X (k + 1)) = fun i => rB B X (i + 1) from put1_same _ _] at push; refine ⟨?_, ?_, ?_, fun x hx => ⟨fun e => ?_, by have := (hlow x hx).1; omega⟩, push, hw, hp, ?_⟩
 · exact (h.bel.trans (hf.below (by have := h.bel.size; omega) (fun x e => by omega))).trans (hgf.below (by have := h.bel.size; omega) (fun x e => by have := (ub x e).1; omega))
 · exact (hgf.block P (by omega) (fun e => by have := (ub P e).1; omega)).trans yP
 · exact (oD.fr hgf (fun x hx e => by have := (hlow x hx).1; have := (ub x e).2; omega)).mono (by omega)
 ·
  rcases hk with q | q
  · rw [q] at e; have := (ub x e).2; have := (hlow x hx).1; omega
  · rw [q] at e; have := Option.some.inj e; have := (hlow x hx).2; omega
 · have := hgf.size; omega
end Go.Proofs.YtdlaekjofgbjcaaGreatDoor
/-
 The contract of spec.Run. Mine, by program (wip/srun.py), by template (wip/gen.py).
-/
namespace Go.Proofs.YtdlaekjofgbjcaaGreatDoor
open Go.RowKit
theorem begin_n {s : Int} (h : 1 ≤ s ∧ s ≤ 60) : (beginBk s).n = s := by unfold beginBk; rw [if_pos h]
theorem begin_tiny (s : Int) : Tiny (beginBk s) ∧ Names (beginBk s) ∧ -9223372036854775808 ≤ (beginBk s).n ∧ (beginBk s).n ≤ 9223372036854775807 := by
 unfold beginBk; split
 · next h => exact ⟨⟨by simp, fun i hi => absurd hi (by simp), by simp; omega, by simp; omega⟩, fun i hi => absurd hi (by simp), by dsimp only; omega, by dsimp only; omega⟩
 · exact ⟨⟨by simp, fun i hi => absurd hi (by simp), by simp, by simp⟩, fun i hi => absurd hi (by simp), by dsimp only; omega, by dsimp only; omega⟩
theorem putBook_size (y : World) (P : Nat) (B : Bk) (s : Sl) : (putBook y P B s).heap.size = y.heap.size := by simp [putBook, World.setCell]
end Go.Proofs.YtdlaekjofgbjcaaGreatDoor
