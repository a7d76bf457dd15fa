import Derived.Test.YtdlaekjofgbjcaaGreatDoorEvTo
import Derived.Test.YtdlaekjofgbjcaaGreatDoorBaseZ
import Derived.Test.YtdlaekjofgbjcaaGreatDoorDonesZ
import Derived.Test.YtdlaekjofgbjcaaGreatDoorSCopy
import Derived.Test.YtdlaekjofgbjcaaGreatDoorIDoZ
import Derived.Test.YtdlaekjofgbjcaaGreatDoorSDoZ
/-
 Slices of events: what lies in memory; the contracts of laws.szEventS, toEventS, eqEventS. Mine, by template (wip/gen.py).
-/
namespace Go.Proofs.YtdlaekjofgbjcaaGreatDoor
open Go.RowKit
def Ev.zero : Ev := ⟨0, 0, ByteArray.empty, 0, [], ByteArray.empty⟩
structure EvCells (w : World) (b o : Nat) (x : Ev) (ad : Option Addr) (c : Nat) : Prop where
 c0 : w.cell? ⟨b, o, none⟩ = some (.int .i64 x.op)
 c1 : w.cell? ⟨b, o + 1, none⟩ = some (.int .i64 x.of_)
 c2 : w.cell? ⟨b, o + 2, none⟩ = some (.string x.holder)
 c3 : w.cell? ⟨b, o + 3, none⟩ = some (.int .i64 x.kind)
 c4 : w.cell? ⟨b, o + 4, none⟩ = some (.slice ad x.secs.length c)
 c5 : w.cell? ⟨b, o + 5, none⟩ = some (.string x.text)
 secs : Cells w ad x.secs.length (iV x.secs)
theorem EvCells.below {w w' : World} {b o : Nat} {x : Ev} {ad : Option Addr} {c : Nat} (h : EvCells w b o x ad c) (hb : Below w.heap.size w w') : EvCells w' b o x ad c := by
 have hl : b < w.heap.size := World.block_lt_of_cell? _ _ h.c0; exact ⟨(hb.cell (p := ⟨b, o, none⟩) hl).trans h.c0, (hb.cell (p := ⟨b, o + 1, none⟩) hl).trans h.c1, (hb.cell (p := ⟨b, o + 2, none⟩) hl).trans h.c2, (hb.cell (p := ⟨b, o + 3, none⟩) hl).trans h.c3, (hb.cell (p := ⟨b, o + 4, none⟩) hl).trans h.c4, (hb.cell (p := ⟨b, o + 5, none⟩) hl).trans h.c5, h.secs.below hb⟩
def EventsAt (w : World) (ad : Option Addr) (n : Nat) (X : Nat → Ev) : Prop :=
 ∃ b o, (0 < n → ad = some ⟨b, o, none⟩) ∧ ∀ i, i < n → ∃ sa sc, EvCells w b (o + i * 6) (X i) sa sc
theorem EventsAt.below {w w' : World} {ad : Option Addr} {n : Nat} {X : Nat → Ev} (h : EventsAt w ad n X) (hb : Below w.heap.size w w') : EventsAt w' ad n X := by
 obtain ⟨b, o, h1, h2⟩ := h; exact ⟨b, o, h1, fun i hi => by obtain ⟨sa, sc, h3⟩ := h2 i hi; exact ⟨sa, sc, h3.below hb⟩⟩
end Go.Proofs.YtdlaekjofgbjcaaGreatDoor
/-
 What is kept along Run's loop, in both programs. Mine, by template (wip/gen.py).
-/
namespace Go.Proofs.YtdlaekjofgbjcaaGreatDoor
open Go.RowKit
theorem Tryz.infoDone : (Tryz.prog.info? 39).map (fun i => (i.zero, i.size, i.bytes)) = some (some (.agg #[.int .i64 0, .int .i64 0, .slice none 0 0, .slice none 0 0, .slice none 0 0]), 5, 88) := by kernel_rfl
def runOk (s : Int) (n : Nat) : Prop := (1 ≤ s ∧ s ≤ 60) ∧ n ≤ 1000
def RetRun (e : Ending) (w w' : World) (s : Int) (n : Nat) (X : Nat → Ev) : Prop :=
 ∃ m ad c G sl K, ((runOk s n ∧ m = n) ∨ (¬ runOk s n ∧ m = 0)) ∧ e = .returned (.slice ad m c) ∧ (0 < m → ad = some ⟨G, 0, none⟩) ∧ OwnDones w' w.heap.size m (rC (beginBk s) X) (fun i => rB (beginBk s) X (i + 1)) G sl K ∧ Below w.heap.size w w'
theorem OwnDones.mono {w : World} {lo lo' n : Nat} {C : Nat → Int} {R : Nat → Bk} {G : Nat} {s : Nat → Sl} {K : Nat → Blk} (h : OwnDones w lo n C R G s K) (hl : lo' ≤ lo) : OwnDones w lo' n C R G s K :=
 ⟨h.row, fun p => Nat.le_trans hl (h.low p), fun i hi => (h.own i hi).mono hl, h.dis, h.apart⟩
theorem ownDones_nil (w : World) (lo : Nat) (C : Nat → Int) (R : Nat → Bk) (G : Nat) (s : Nat → Sl) (K : Nat → Blk) : OwnDones w lo 0 C R G s K :=
 ⟨fun h => absurd h (by omega), fun h => absurd h (by omega), fun i h => absurd h (by omega), fun i h => absurd h (by omega), fun i j h => absurd h (by omega)⟩
theorem RowDones.fr {w w' : World} {lo : Nat} {u : Value} {n : Nat} {C : Nat → Int} {R : Nat → Bk} {s : Nat → Sl} {K : Nat → Blk} (h : RowDones w lo u n C R s K) {S : Nat → Prop} (hf : Fr S w w') (hs : ∀ x, lo ≤ x → ¬ S x) : RowDones w' lo u n C R s K :=
 ⟨owns_of_block h.row (fun g hg => hf.block g (owns_lt h.row hg).2 (hs g (owns_lt h.row hg).1)), fun i hi => (h.own i hi).fr hf (fun b hb => hs b ((h.own i hi).blocks_low hb)), h.dis, h.apart⟩
structure RunInv (w wr : World) (P lo : Nat) (u : Value) (k : Nat) (B : Bk) (X : Nat → Ev) (sl : Nat → Sl) (K : Nat → Blk) (s : Sl) (Kb : Blk) : Prop where
 bel : Below w.heap.size w wr
 box : wr.heap[P]? = some (.cells #[.int .i64 (rB B X k).n, .slice s.ao (rB B X k).orders.length s.co, .slice s.al (rB B X k).locked.length s.cl, .slice s.ac (rB B X k).occ.length s.cc] 37 (0, 0))
 own : OwnBook wr w.heap.size (bookV (rB B X k) s) (rB B X k) Kb
 dis : ∀ x, bookBlocks (rB B X k) Kb x → u.ownBlock ≠ some x ∧ x ≠ P
 row : RowDones wr lo u k (rC B X) (fun i => rB B X (i + 1)) sl K
 wP : w.heap.size ≤ P
 pl : P < lo
 lw : lo ≤ wr.heap.size
theorem RunInv.below {w wr w' : World} {P lo : Nat} {u : Value} {k : Nat} {B : Bk} {X : Nat → Ev} {sl : Nat → Sl} {K : Nat → Blk} {s : Sl} {Kb : Blk} (h : RunInv w wr P lo u k B X sl K s Kb) (hb : Below wr.heap.size wr w') : RunInv w w' P lo u k B X sl K s Kb :=
 ⟨below_trans h.bel h.bel.size hb, (hb.block _ (by have := h.pl; have := h.lw; omega)).trans h.box, h.own.below hb, h.dis, h.row.below hb, h.wP, h.pl, Nat.le_trans h.lw hb.size⟩
def putBook (y : World) (P : Nat) (B : Bk) (s : Sl) : World := (((y.setCell ⟨P, 0, none⟩ (.int .i64 B.n)).setCell ⟨P, 1, none⟩ (.slice s.ao B.orders.length s.co)).setCell ⟨P, 2, none⟩ (.slice s.al B.locked.length s.cl)).setCell ⟨P, 3, none⟩ (.slice s.ac B.occ.length s.cc)
theorem putBook_fr (y : World) (P : Nat) (B : Bk) (s : Sl) : Fr (fun x => x = P) y (putBook y P B s) := fr_one (fr_one (fr_one (fr_one (Fr.refl _ _))))
theorem putBook_box {y : World} {P : Nat} {B : Bk} {s : Sl} {z0 z1 z2 z3 : Value} (h : y.heap[P]? = some (.cells #[z0, z1, z2, z3] 37 (0, 0))) : (putBook y P B s).heap[P]? = some (.cells #[.int .i64 B.n, .slice s.ao B.orders.length s.co, .slice s.al B.locked.length s.cl, .slice s.ac B.occ.length s.cc] 37 (0, 0)) :=
 (box_set (box_set (box_set (box_set h _) _) _) _).trans rfl
theorem RunInv.step {w wr V wU : World} {P lo : Nat} {u u2 : Value} {k : Nat} {B : Bk} {X : Nat → Ev} {sl : Nat → Sl} {K : Nat → Blk} {s : Sl} {Kb : Blk} (h : RunInv w wr P lo u k B X sl K s Kb) (hf : Fr (fun x => x = P) wr V) {s' : Sl} {K' : Blk} {R : Bk} (hR : rB B X (k + 1) = R) {c : Int} (hc : rC B X k = c)
  (yP : V.heap[P]? = some (.cells #[.int .i64 R.n, .slice s'.ao R.orders.length s'.co, .slice s'.al R.locked.length s'.cl, .slice s'.ac R.occ.length s'.cc] 37 (0, 0)))
  (hB : OwnBook V wr.heap.size (bookV R s') R K')
  (h2 : wU.ownsRow lo 39 5 u2 (k + 1) (flatD (rC B X) (fun i => rB B X (i + 1)) sl k ++ cellsD c R s')) (hg : V.grownBy wU u.ownBlock) (hk : u2.ownBlock = u.ownBlock ∨ u2.ownBlock = some V.heap.size) :
  RunInv w wU P lo u2 (k + 1) B X (put1 sl k s') (put1 K k K') s' K' := by
 subst hR; subst hc; have hw := h.wP; have hp := h.pl; have hl := h.lw; have hz := hf.size; have hlow : ∀ x, bookBlocks (rB B X (k + 1)) K' x → wr.heap.size ≤ x ∧ x < V.heap.size := fun x hx => ⟨hB.blocks_low hx, hB.blocks_lt hx⟩; have ub : ∀ g, u.ownBlock = some g → lo ≤ g ∧ g < wr.heap.size := fun g hg => owns_lt h.row.row hg; have rD : RowDones V lo u k (rC B X) (fun i => rB B X (i + 1)) sl K := h.row.fr hf (fun x hx e => by omega); have oD : OwnBook V lo (bookV (rB B X (k + 1)) s') (rB B X (k + 1)) K' := hB.mono hl; have hgf : Fr (fun x => u.ownBlock = some x) V wU := ⟨hg.os, hg.tape, hg.output, hg.size, fun j hj hn => hg.block j hj (fun e => hn e.symm)⟩; have push := rD.push (rC B X k) (rB B X (k + 1)) s' K' oD (fun x hx e => by have := (hlow x hx).1; have := (ub x e).2; omega) (fun i hi x hx hx' => by have := (hlow x hx').1; have := (h.row.own i hi).blocks_lt hx; omega) h2 hg hk; rw [put1_same, show put1 (fun i => rB B X (i + 1)) k (rB B X (k + 1)) = fun i => rB B X (i + 1) from put1_same _ _] at push; refine ⟨?_, ?_, ?_, fun x hx => ⟨fun e => ?_, by have := (hlow x hx).1; omega⟩, push, hw, hp, ?_⟩
 · exact (h.bel.trans (hf.below (by have := h.bel.size; omega) (fun x e => by omega))).trans (hgf.below (by have := h.bel.size; omega) (fun x e => by have := (ub x e).1; omega))
 · exact (hgf.block P (by omega) (fun e => by have := (ub P e).1; omega)).trans yP
 · exact (oD.fr hgf (fun x hx e => by have := (hlow x hx).1; have := (ub x e).2; omega)).mono (by omega)
 ·
  rcases hk with q | q
  · rw [q] at e; have := (ub x e).2; have := (hlow x hx).1; omega
  · rw [q] at e; have := Option.some.inj e; have := (hlow x hx).2; omega
 · have := hgf.size; omega
end Go.Proofs.YtdlaekjofgbjcaaGreatDoor
/-
 The contract of spec.Run. Mine, by program (wip/srun.py), by template (wip/gen.py).
-/
namespace Go.Proofs.YtdlaekjofgbjcaaGreatDoor
open Go.RowKit
theorem dcells {w : World} {p : Nat} {a b c d e : Value} {t : TypeId} (h : w.heap[p]? = some (.cells #[a, b, c, d, e] t (0, 0))) :
  w.cell? ⟨p, 0, none⟩ = some a ∧ w.cell? ⟨p, 1, none⟩ = some b ∧ w.cell? ⟨p, 2, none⟩ = some c ∧ w.cell? ⟨p, 3, none⟩ = some d ∧ w.cell? ⟨p, 4, none⟩ = some e := by
 simp [World.cell?, h]
theorem n_doP (B : Bk) (E : Ev) : (doP B E).2.n = B.n ∨ (doP B E).2.n = 0 := by
 by_cases hok : EvOk B E
 case neg => rw [doP_none hok]; exact Or.inr rfl
 have hin := EvOk.some hok; unfold In at hin; rcases (show E.op = 1 ∨ E.op = 2 ∨ E.op = 3 ∨ E.op = 4 ∨ E.op = 5 ∨ E.op = 6 ∨ E.op = 7 ∨ E.op = 8 ∨ E.op = 9 by omega) with o | o | o | o | o | o | o | o | o
 · rw [doP_write hok o]; unfold doWrite; split <;> exact Or.inl rfl
 · rw [doP_give hok o]; unfold doGive; split <;> exact Or.inl rfl
 ·
  rw [doP_repeat hok o]; unfold doRepeat; split
  · exact Or.inl rfl
  ·
   split
   · exact Or.inl rfl
   · split <;> exact Or.inl rfl
 ·
  rw [doP_back hok o]; unfold doBack; split
  · exact Or.inl rfl
  · split <;> exact Or.inl rfl
 · rw [doP_cancel hok o]; unfold doCancel; split <;> exact Or.inl rfl
 · rw [doP_lock hok o]; unfold doLock; split <;> exact Or.inl rfl
 · rw [doP_unlock hok o]; exact Or.inl rfl
 · rw [doP_occ hok o]; exact Or.inl rfl
 · rw [doP_free hok o]; exact Or.inl rfl
theorem n_rB {B : Bk} (h : -9223372036854775808 ≤ B.n ∧ B.n ≤ 9223372036854775807) (X : Nat → Ev) (j : Nat) : -9223372036854775808 ≤ (rB B X j).n ∧ (rB B X j).n ≤ 9223372036854775807 := by
 induction j with
 | zero => exact h
 | succ j ih =>
  simp only [rB]; split
  · exact ih
  ·
   rcases n_doP (rB B X j) (X j) with e | e <;> rw [e]
   · exact ih
   · exact ⟨by omega, by omega⟩
theorem begin_n {s : Int} (h : 1 ≤ s ∧ s ≤ 60) : (beginBk s).n = s := by unfold beginBk; rw [if_pos h]
theorem begin_n0 {s : Int} (h : ¬ (1 ≤ s ∧ s ≤ 60)) : (beginBk s).n = 0 := by unfold beginBk; rw [if_neg h]
theorem begin_tiny (s : Int) : Tiny (beginBk s) ∧ Names (beginBk s) ∧ -9223372036854775808 ≤ (beginBk s).n ∧ (beginBk s).n ≤ 9223372036854775807 := by
 unfold beginBk; split
 · next h => exact ⟨⟨by simp, fun i hi => absurd hi (by simp), by simp; omega, by simp; omega⟩, fun i hi => absurd hi (by simp), by dsimp only; omega, by dsimp only; omega⟩
 · exact ⟨⟨by simp, fun i hi => absurd hi (by simp), by simp, by simp⟩, fun i hi => absurd hi (by simp), by dsimp only; omega, by dsimp only; omega⟩
def putQ (y : World) (Q : Nat) (B : Bk) (s : Sl) : World := (((y.setCell ⟨Q, 1, none⟩ (.int .i64 B.n)).setCell ⟨Q, 2, none⟩ (.slice s.ao B.orders.length s.co)).setCell ⟨Q, 3, none⟩ (.slice s.al B.locked.length s.cl)).setCell ⟨Q, 4, none⟩ (.slice s.ac B.occ.length s.cc)
theorem putQ_below {w y : World} {lo Q : Nat} {B : Bk} {s : Sl} (h : Below lo w y) (hq : lo ≤ Q) : Below lo w (putQ y Q B s) := below_set (below_set (below_set (below_set h _ _ hq _) _ _ hq _) _ _ hq _) _ _ hq _
theorem putQ_own {y : World} {lo Q : Nat} {B R : Bk} {s : Sl} {v : Value} {K : Blk} (h : OwnBook y lo v R K) (hq : ∀ x, bookBlocks R K x → x ≠ Q) : OwnBook (putQ y Q B s) lo v R K := (((h.setOther (a := ⟨Q, 1, none⟩) hq _).setOther (a := ⟨Q, 2, none⟩) hq _).setOther (a := ⟨Q, 3, none⟩) hq _).setOther (a := ⟨Q, 4, none⟩) hq _
theorem putQ_other {y : World} {Q P : Nat} {B : Bk} {s : Sl} (h : P ≠ Q) : (putQ y Q B s).heap[P]? = y.heap[P]? := (Deep.blk_setCell_other _ _ _ _ h).trans ((Deep.blk_setCell_other _ _ _ _ h).trans ((Deep.blk_setCell_other _ _ _ _ h).trans (Deep.blk_setCell_other _ _ _ _ h)))
theorem putQ_size (y : World) (Q : Nat) (B : Bk) (s : Sl) : (putQ y Q B s).heap.size = y.heap.size := by simp [putQ, World.setCell]
theorem putBook_size (y : World) (P : Nat) (B : Bk) (s : Sl) : (putBook y P B s).heap.size = y.heap.size := by simp [putBook, World.setCell]
set_option maxHeartbeats 8000000 in
set_option maxRecDepth 20000 in
theorem specRun_any (sct : Int) (ad : Option Addr) (c n : Nat) (X : Nat → Ev) (w : World) (hn : n ≤ 1048576) (hX : ∀ i, i < n → (X i).holder.size ≤ 1048576 ∧ (X i).text.size ≤ 1048576 ∧ (X i).secs.length ≤ 1048576) (G : EventsAt w ad n X) :
  Calls Tryz.prog 7 #[.int .i64 sct, .slice ad n c] w fun e w' => RetRun e w w' sct n X := by
 have HG : Hid (EventsAt w ad n X ∧ ∀ i, i < n → (X i).holder.size ≤ 1048576 ∧ (X i).text.size ≤ 1048576 ∧ (X i).secs.length ≤ 1048576) := ⟨G, hX⟩; clear G hX; obtain ⟨id, hid, zd0, zd1, zd2⟩ := info_parts Tryz.infoDone
 go_enter Tryz.func7, Tryz.ntmps7
 go_wp2_with fail
 refine (specBegin_any sct w).mono ?_; rintro e w1 ⟨v, rfl, ⟨K0, hB0⟩, hb⟩; obtain ⟨ao, co, al, cl, ac, cc, hv, -⟩ := hB0.shape; subst hv; have H1 : Hid (OwnBook w1 w.heap.size (bookV (beginBk sct) ⟨ao, co, al, cl, ac, cc⟩) (beginBk sct) K0 ∧ Below w.heap.size w w1) := ⟨hB0, hb⟩; clear hB0 hb
 by_cases hs : 1 ≤ sct ∧ sct ≤ 60
 case neg =>
  have t0 : ((beginBk sct).n == 0) = true := by rw [begin_n0 hs]; rfl
  have HN : Hid (¬ runOk sct n) := fun q => hs q.1; clear hs; go_wp2; go_ret; exact ⟨0, none, 0, 0, fun _ => ⟨none, 0, none, 0, none, 0⟩, fun _ => K0, Or.inr ⟨HN.out, rfl⟩, rfl, fun h => absurd h (by omega), ownDones_nil _ _ _ _ _ _ _, H1.out.2.alloc H1.out.2.size _⟩
 have t0 : ((beginBk sct).n == 0) = false := by rw [begin_n hs]; simp; omega
 by_cases h1000 : 1000 < n
 ·
  have HN : Hid (¬ runOk sct n) := fun q => by have := q.2; omega
  have t1 : (1000 : Int) < (n : Int) := by omega
  clear hs h1000; go_wp2; go_ret; exact ⟨0, none, 0, 0, fun _ => ⟨none, 0, none, 0, none, 0⟩, fun _ => K0, Or.inr ⟨HN.out, rfl⟩, rfl, fun h => absurd h (by omega), ownDones_nil _ _ _ _ _ _ _, H1.out.2.alloc H1.out.2.size _⟩
 have HO : Hid (runOk sct n) := ⟨hs, by omega⟩; have HB : Hid (Tiny (beginBk sct) ∧ Names (beginBk sct) ∧ -9223372036854775808 ≤ (beginBk sct).n ∧ (beginBk sct).n ≤ 9223372036854775807) := begin_tiny sct; have t1 : ¬ (1000 : Int) < (n : Int) := by omega
 clear hs h1000; go_wp2
 have I0 : RunInv w (w1.alloc (.cells #[.int .i64 (beginBk sct).n, .slice ao (beginBk sct).orders.length co, .slice al (beginBk sct).locked.length cl, .slice ac (beginBk sct).occ.length cc] 37)) w1.heap.size (w1.heap.size + 1) (.slice none 0 0) 0 (beginBk sct) X (fun _ => ⟨none, 0, none, 0, none, 0⟩) (fun _ => K0) ⟨ao, co, al, cl, ac, cc⟩ K0 :=
  ⟨H1.out.2.alloc H1.out.2.size _, Deep.blk_alloc_new _ _, H1.out.1.below (below1 _ _), fun x hx => ⟨fun e => (by cases e), by have := H1.out.1.blocks_lt hx; omega⟩, ⟨World.ownsRow_nil _ _ _ _, fun i hi => absurd hi (by omega), fun i hi => absurd hi (by omega), fun i j hi => absurd hi (by omega)⟩, H1.out.2.size, by omega, by simp⟩
 obtain ⟨B, hB⟩ : ∃ B, B = beginBk sct := ⟨_, rfl⟩; rw [← hB] at I0 HB t0 ⊢; have HBe : Hid (B = beginBk sct) := hB; have HI : Hid (RunInv w (w1.alloc (.cells #[.int .i64 B.n, .slice ao B.orders.length co, .slice al B.locked.length cl, .slice ac B.occ.length cc] 37)) w1.heap.size (w1.heap.size + 1) (.slice none 0 0) 0 B X (fun _ => ⟨none, 0, none, 0, none, 0⟩) (fun _ => K0) ⟨ao, co, al, cl, ac, cc⟩ K0) := I0; clear I0 H1 hB t0
 go_loopw [6, 22] (fun o i wr => ∃ (k : Nat) (u : Value) (sl : Nat → Sl) (K : Nat → Blk) (s : Sl) (Kb : Blk), k ≤ n ∧ i = .int .i64 k ∧ o = u ∧ RunInv w wr w1.heap.size (w1.heap.size + 1) u k B X sl K s Kb) (fun _ i _ => n - (intOf i).toNat)
 case atStart => exact ⟨0, _, _, _, _, _, Nat.zero_le _, rfl, rfl, HI.out⟩
 case round =>
  obtain ⟨k, u, sl, K, s, Kb, hk, rfl, ho, hi⟩ := hrel; obtain rfl := ho.symm; clear HI
  by_cases hlt : k < n
  ·
   obtain ⟨b, oo, h2, g⟩ := HG.out.1; obtain rfl := h2 (by omega); obtain ⟨sa, sc, q⟩ := g k hlt; have hXk := HG.out.2 k hlt; obtain ⟨x0, x1, x2, x3, x4, x5, x6⟩ := q.below hi.bel; obtain ⟨p0, p1, p2, p3⟩ := box_cells hi.box; have zP : w1.heap.size < wr.heap.size := by have := hi.pl; have := hi.lw; omega
   have lb : b < wr.heap.size := World.block_lt_of_cell? _ _ x0; have HR : Hid (RunInv w wr w1.heap.size (w1.heap.size + 1) u k B X sl K s Kb ∧ Cells wr sa (X k).secs.length (iV (X k).secs)) := ⟨hi, x6⟩; clear g h2 q hi x6
   go_wp2_with fail
   refine (specDo_any _ _ (rB B X k) (X k) _ (small_rB HB.out.1 HB.out.2.1 X k) (n_rB HB.out.2.2 X k) hXk.1 hXk.2.1 hXk.2.2 (HR.out.1.own.bookAt.below (below1 _ _)) ⟨sa, sc, rfl, HR.out.2.below (below1 _ _)⟩).mono ?_; rintro e w2 ⟨a2, b2, c2, d2, KD, rfl, hD, hbD⟩; obtain ⟨ao2, co2, al2, cl2, ac2, cc2, rfl, rfl, rfl, rfl⟩ := bookAt_shape hD.bookAt; have by2 : Below wr.heap.size wr w2 := (below1 _ _).trans (hbD.mono (by simp)); have H2 : Hid (RunInv w w2 w1.heap.size (w1.heap.size + 1) u k B X sl K s Kb ∧ OwnBook w2 wr.heap.size (bookV (doP (rB B X k) (X k)).2 ⟨ao2, co2, al2, cl2, ac2, cc2⟩) (doP (rB B X k) (X k)).2 KD ∧ Below wr.heap.size wr w2) := ⟨HR.out.1.below by2, hD.mono (by simp), by2⟩; have z2 : w1.heap.size < w2.heap.size := Nat.lt_of_lt_of_le zP by2.size; clear p0 p1 p2 p3 x0 x1 x2 x3 x4 x5 hD hbD by2 lb; obtain ⟨p0, p1, p2, p3⟩ := box_cells H2.out.1.box; have fP : ∀ i, w2.frozen? ⟨w1.heap.size, i, none⟩ = false := fun i => frozen_of_box H2.out.1.box; have fP0 := fP 0; have fP1 := fP 1; have fP2 := fP 2; have fP3 := fP 3; clear fP
   by_cases h1 : (doP (rB B X k) (X k)).1 = 1
   ·
    have t1' : ((doP (rB B X k) (X k)).1 == 1) = true := by rw [h1]; rfl
    have H1 : Hid ((doP (rB B X k) (X k)).1 = 1) := h1; clear h1
    go_wp2_with fail
    have sA := below1 w2 (.cells #[.int .i64 (doP (rB B X k) (X k)).1, .int .i64 (doP (rB B X k) (X k)).2.n, .slice ao2 (doP (rB B X k) (X k)).2.orders.length co2, .slice al2 (doP (rB B X k) (X k)).2.locked.length cl2, .slice ac2 (doP (rB B X k) (X k)).2.occ.length cc2] 39); have tny := tiny_rB HB.out.1 X k; have sml := small_rB HB.out.1 HB.out.2.1 X k; refine (l2copy_any _ (rB B X k) _ sml.1 (fun i hi => (sml.2 i hi).1) (by have := tny.l; omega) (by have := tny.c; omega) (H2.out.1.own.bookAt.below sA)).mono ?_; clear tny sml; rintro e w3 ⟨v3, rfl, ⟨K3, hrow⟩, hb3⟩; obtain ⟨ao3, co3, al3, cl3, ac3, cc3, hv3, -⟩ := hrow.own.shape; subst hv3; have szA : (w2.alloc (.cells #[.int .i64 (doP (rB B X k) (X k)).1, .int .i64 (doP (rB B X k) (X k)).2.n, .slice ao2 (doP (rB B X k) (X k)).2.orders.length co2, .slice al2 (doP (rB B X k) (X k)).2.locked.length cl2, .slice ac2 (doP (rB B X k) (X k)).2.occ.length cc2] 39)).heap.size = w2.heap.size + 1 := alloc_size _ _; have z3 : w2.heap.size + 1 ≤ w3.heap.size := by have := hb3.size; omega
    have xQ : w3.heap[w2.heap.size]? = some (.cells #[.int .i64 (doP (rB B X k) (X k)).1, .int .i64 (doP (rB B X k) (X k)).2.n, .slice ao2 (doP (rB B X k) (X k)).2.orders.length co2, .slice al2 (doP (rB B X k) (X k)).2.locked.length cl2, .slice ac2 (doP (rB B X k) (X k)).2.occ.length cc2] 39 (0, 0)) := (hb3.block _ (by omega)).trans (Deep.blk_alloc_new _ _); have xP := (hb3.block _ (by omega : w1.heap.size < (w2.alloc (.cells #[.int .i64 (doP (rB B X k) (X k)).1, .int .i64 (doP (rB B X k) (X k)).2.n, .slice ao2 (doP (rB B X k) (X k)).2.orders.length co2, .slice al2 (doP (rB B X k) (X k)).2.locked.length cl2, .slice ac2 (doP (rB B X k) (X k)).2.occ.length cc2] 39)).heap.size)).trans ((sA.block _ z2).trans H2.out.1.box); have b23 : Below w2.heap.size w2 w3 := sA.trans (hb3.mono (by omega)); have br3 : Below wr.heap.size wr w3 := below_trans H2.out.2.2 H2.out.2.2.size b23; have HQ : Hid (OwnBook w3 (w2.heap.size + 1) (bookV (rB B X k) (⟨ao3, co3, al3, cl3, ac3, cc3⟩ : Sl)) (rB B X k) K3 ∧ Below wr.heap.size wr w3 ∧ w3.heap[w1.heap.size]? = some (.cells #[.int .i64 (rB B X k).n, .slice s.ao (rB B X k).orders.length s.co, .slice s.al (rB B X k).locked.length s.cl, .slice s.ac (rB B X k).occ.length s.cc] 37 (0, 0)) ∧ wr.heap.size ≤ w2.heap.size) := ⟨by rw [← szA]; exact hrow.own, br3, xP, H2.out.2.2.size⟩; clear p0 p1 p2 p3 fP0 fP1 fP2 fP3 sA hrow hb3 szA b23 br3; obtain ⟨p0, p1, p2, p3⟩ := box_cells xP; obtain ⟨q0, q1, q2, q3, q4⟩ := dcells xQ; have fP : ∀ i, w3.frozen? ⟨w1.heap.size, i, none⟩ = false := fun i => frozen_of_box xP; have fQ : ∀ i, w3.frozen? ⟨w2.heap.size, i, none⟩ = false := fun i => frozen_of_box xQ; have fP0 := fP 0; have fP1 := fP 1; have fP2 := fP 2; have fP3 := fP 3; have fQ1 := fQ 1; have fQ2 := fQ 2; have fQ3 := fQ 3; have fQ4 := fQ 4; have nQP : w2.heap.size ≠ w1.heap.size := by omega
    clear fP fQ xP xQ
    go_wp2_with (at_builtin; refine stand ?_)
    refine Stand.go ?_; have hCh : ((((((((w3.setCell ⟨w2.heap.size, 1, none⟩ (.int .i64 (rB B X k).n)).setCell ⟨w2.heap.size, 2, none⟩ (.slice ao3 (rB B X k).orders.length co3)).setCell ⟨w2.heap.size, 3, none⟩ (.slice al3 (rB B X k).locked.length cl3)).setCell ⟨w2.heap.size, 4, none⟩ (.slice ac3 (rB B X k).occ.length cc3)).setCell ⟨w1.heap.size, 0, none⟩ (.int .i64 (rB B X k).n)).setCell ⟨w1.heap.size, 1, none⟩ (.slice ao3 (rB B X k).orders.length co3)).setCell ⟨w1.heap.size, 2, none⟩ (.slice al3 (rB B X k).locked.length cl3)).setCell ⟨w1.heap.size, 3, none⟩ (.slice ac3 (rB B X k).occ.length cc3)) = putBook (putQ w3 w2.heap.size (rB B X k) (⟨ao3, co3, al3, cl3, ac3, cc3⟩ : Sl)) w1.heap.size (rB B X k) (⟨ao3, co3, al3, cl3, ac3, cc3⟩ : Sl) := rfl; rw [hCh]; clear hCh; obtain ⟨Y, hY⟩ : ∃ Y, Y = putBook (putQ w3 w2.heap.size (rB B X k) (⟨ao3, co3, al3, cl3, ac3, cc3⟩ : Sl)) w1.heap.size (rB B X k) (⟨ao3, co3, al3, cl3, ac3, cc3⟩ : Sl) := ⟨_, rfl⟩; rw [← hY]; have lows : ∀ x, bookBlocks (rB B X k) K3 x → x ≠ w2.heap.size := fun x hx => by have := HQ.out.1.blocks_low hx; omega
    have fY : Fr (fun x => x = w1.heap.size) wr Y := by rw [hY]; exact (Fr.of_below (putQ_below HQ.out.2.1 HQ.out.2.2.2)).trans (putBook_fr _ w1.heap.size (rB B X k) (⟨ao3, co3, al3, cl3, ac3, cc3⟩ : Sl))
    have oY : OwnBook Y wr.heap.size (bookV (rB B X k) (⟨ao3, co3, al3, cl3, ac3, cc3⟩ : Sl)) (rB B X k) K3 := by rw [hY]; exact ((putQ_own HQ.out.1 lows).fr (putBook_fr _ w1.heap.size (rB B X k) (⟨ao3, co3, al3, cl3, ac3, cc3⟩ : Sl)) (fun x hx e => by have := HQ.out.1.blocks_low hx; omega)).mono (by have := HQ.out.2.2.2; omega)
    have xY : Y.heap[w1.heap.size]? = some (.cells #[.int .i64 (rB B X k).n, .slice ao3 (rB B X k).orders.length co3, .slice al3 (rB B X k).locked.length cl3, .slice ac3 (rB B X k).occ.length cc3] 37 (0, 0)) := by rw [hY]; exact putBook_box ((putQ_other nQP.symm).trans HQ.out.2.2.1)
    have sY : Y.heap.size = w3.heap.size := by rw [hY]; exact (putBook_size _ _ _ _).trans (putQ_size _ _ _ _)
    clear hY lows p0 p1 p2 p3 fP0 fP1 fP2 fP3 q0 q1 q2 q3 q4 fQ1 fQ2 fQ3 fQ4 nQP; have s2 : (Y.alloc (.cells #[.int .i64 (doP (rB B X k) (X k)).1, .int .i64 (rB B X k).n, .slice ao3 (rB B X k).orders.length co3, .slice al3 (rB B X k).locked.length cl3, .slice ac3 (rB B X k).occ.length cc3] 39)).heap.size = w3.heap.size + 1 := (alloc_size _ _).trans (by rw [sY]); have hf : Fr (fun x => x = w1.heap.size) wr (Y.alloc (.cells #[.int .i64 (doP (rB B X k) (X k)).1, .int .i64 (rB B X k).n, .slice ao3 (rB B X k).orders.length co3, .slice al3 (rB B X k).locked.length cl3, .slice ac3 (rB B X k).occ.length cc3] 39)) := fY.alloc _; have hBV : OwnBook (Y.alloc (.cells #[.int .i64 (doP (rB B X k) (X k)).1, .int .i64 (rB B X k).n, .slice ao3 (rB B X k).orders.length co3, .slice al3 (rB B X k).locked.length cl3, .slice ac3 (rB B X k).occ.length cc3] 39)) wr.heap.size (bookV (rB B X k) (⟨ao3, co3, al3, cl3, ac3, cc3⟩ : Sl)) (rB B X k) K3 := oY.below (below1 Y (.cells #[.int .i64 (doP (rB B X k) (X k)).1, .int .i64 (rB B X k).n, .slice ao3 (rB B X k).orders.length co3, .slice al3 (rB B X k).locked.length cl3, .slice ac3 (rB B X k).occ.length cc3] 39))
    have yPV : (Y.alloc (.cells #[.int .i64 (doP (rB B X k) (X k)).1, .int .i64 (rB B X k).n, .slice ao3 (rB B X k).orders.length co3, .slice al3 (rB B X k).locked.length cl3, .slice ac3 (rB B X k).occ.length cc3] 39)).heap[w1.heap.size]? = some (.cells #[.int .i64 (rB B X k).n, .slice ao3 (rB B X k).orders.length co3, .slice al3 (rB B X k).locked.length cl3, .slice ac3 (rB B X k).occ.length cc3] 37 (0, 0)) := by
     rw [Deep.blk_alloc_lt _ _ _ (by omega)]; exact xY
    have hn : (Y.alloc (.cells #[.int .i64 (doP (rB B X k) (X k)).1, .int .i64 (rB B X k).n, .slice ao3 (rB B X k).orders.length co3, .slice al3 (rB B X k).locked.length cl3, .slice ac3 (rB B X k).occ.length cc3] 39)).heap[w3.heap.size]? = some (.cells #[.int .i64 (doP (rB B X k) (X k)).1, .int .i64 (rB B X k).n, .slice ao3 (rB B X k).orders.length co3, .slice al3 (rB B X k).locked.length cl3, .slice ac3 (rB B X k).occ.length cc3] 39 (0, 0)) := by
     rw [← sY]; exact Deep.blk_alloc_new _ _
    have zV : w3.heap.size < (Y.alloc (.cells #[.int .i64 (doP (rB B X k) (X k)).1, .int .i64 (rB B X k).n, .slice ao3 (rB B X k).orders.length co3, .slice al3 (rB B X k).locked.length cl3, .slice ac3 (rB B X k).occ.length cc3] 39)).heap.size := by omega
    clear fY oY xY sY s2; obtain ⟨V, hV⟩ : ∃ V, V = (Y.alloc (.cells #[.int .i64 (doP (rB B X k) (X k)).1, .int .i64 (rB B X k).n, .slice ao3 (rB B X k).orders.length co3, .slice al3 (rB B X k).locked.length cl3, .slice ac3 (rB B X k).occ.length cc3] 39)) := ⟨_, rfl⟩; rw [← hV] at hf hBV yPV hn zV ⊢; clear hV
    have n4 : ∀ j u', (cellsD (doP (rB B X k) (X k)).1 (rB B X k) (⟨ao3, co3, al3, cl3, ac3, cc3⟩ : Sl))[j]? = some u' → V.cell? ((⟨w3.heap.size, 0, none⟩ : Addr).add j) = some u' := by
     intro j u' hu; rw [add0]; refine cell_of_box hn ?_; rw [← Array.getElem?_toList]; exact hu
    have R4 : RowDones V (w1.heap.size + 1) u k (rC B X) (fun i => rB B X (i + 1)) sl K := HR.out.1.row.fr hf (fun x hx e => by omega); have szV : wr.heap.size ≤ V.heap.size := hf.size; have hlw := HR.out.1.lw; refine wpList_append_own_at _ rfl _ _ 26 rfl (w1.heap.size + 1) 39 id _ 5 88 Tryz.underlying26 hid zd0 zd1 zd2 rfl (by decide) u k (flatD (rC B X) (fun i => rB B X (i + 1)) sl k) rfl R4.row ⟨w3.heap.size, 0, none⟩ 1 1 (cellsD (doP (rB B X k) (X k)).1 (rB B X k) (⟨ao3, co3, al3, cl3, ac3, cc3⟩ : Sl)) rfl rfl n4 ?_ (by unfold maxLen; omega) (by omega) (by omega) ?_
    ·
     intro x hx; simp only [cellsD, List.mem_cons, List.not_mem_nil, or_false] at hx
     rcases hx with rfl | rfl | rfl | rfl | rfl <;> rfl
    intro vU wU hownU hgU _ hbU; have HU : Hid (RunInv w wU w1.heap.size (w1.heap.size + 1) vU (k + 1) B X (put1 sl k (⟨ao3, co3, al3, cl3, ac3, cc3⟩ : Sl)) (put1 K k K3) (⟨ao3, co3, al3, cl3, ac3, cc3⟩ : Sl) K3) := HR.out.1.step hf (by simp only [rB]; rw [if_pos H1.out]) rfl yPV hBV hownU hgU hbU; obtain ⟨adU, cU, GU, rfl, -, -⟩ := HU.out.row.done; clear hownU hgU hbU n4 R4 szV hf hBV yPV hn zV HR H2 H1 t1' z2 zP HQ z3; go_wp2; go_roundw
    case rel => exact ⟨k + 1, _, _, _, _, _, by omega, by go_num, rfl, HU.out⟩
    case measure => simp [intOf]; omega
   ·
    have t1' : ((doP (rB B X k) (X k)).1 == 1) = false := by simpa using h1
    have H1 : Hid (¬ (doP (rB B X k) (X k)).1 = 1) := h1; clear h1
    go_wp2_with (at_builtin; refine stand ?_)
    refine Stand.go ?_; have hCh : ((((w2.setCell ⟨w1.heap.size, 0, none⟩ (.int .i64 (doP (rB B X k) (X k)).2.n)).setCell ⟨w1.heap.size, 1, none⟩ (.slice ao2 (doP (rB B X k) (X k)).2.orders.length co2)).setCell ⟨w1.heap.size, 2, none⟩ (.slice al2 (doP (rB B X k) (X k)).2.locked.length cl2)).setCell ⟨w1.heap.size, 3, none⟩ (.slice ac2 (doP (rB B X k) (X k)).2.occ.length cc2)) = putBook w2 w1.heap.size (doP (rB B X k) (X k)).2 (⟨ao2, co2, al2, cl2, ac2, cc2⟩ : Sl) := rfl; rw [hCh]; clear hCh; obtain ⟨Y, hY⟩ : ∃ Y, Y = putBook w2 w1.heap.size (doP (rB B X k) (X k)).2 (⟨ao2, co2, al2, cl2, ac2, cc2⟩ : Sl) := ⟨_, rfl⟩; rw [← hY]; have fY : Fr (fun x => x = w1.heap.size) wr Y := by rw [hY]; exact (Fr.of_below H2.out.2.2).trans (putBook_fr w2 w1.heap.size (doP (rB B X k) (X k)).2 (⟨ao2, co2, al2, cl2, ac2, cc2⟩ : Sl))
    have oY : OwnBook Y wr.heap.size (bookV (doP (rB B X k) (X k)).2 (⟨ao2, co2, al2, cl2, ac2, cc2⟩ : Sl)) (doP (rB B X k) (X k)).2 KD := by rw [hY]; exact H2.out.2.1.fr (putBook_fr w2 w1.heap.size (doP (rB B X k) (X k)).2 (⟨ao2, co2, al2, cl2, ac2, cc2⟩ : Sl)) (fun x hx e => by have := H2.out.2.1.blocks_low hx; omega)
    have xY : Y.heap[w1.heap.size]? = some (.cells #[.int .i64 (doP (rB B X k) (X k)).2.n, .slice ao2 (doP (rB B X k) (X k)).2.orders.length co2, .slice al2 (doP (rB B X k) (X k)).2.locked.length cl2, .slice ac2 (doP (rB B X k) (X k)).2.occ.length cc2] 37 (0, 0)) := by rw [hY]; exact putBook_box H2.out.1.box
    have sY : Y.heap.size = w2.heap.size := by rw [hY]; exact putBook_size _ _ _ _
    clear hY p0 p1 p2 p3 fP0 fP1 fP2 fP3; have s1 : (Y.alloc (.cells #[.int .i64 (doP (rB B X k) (X k)).1, .int .i64 (doP (rB B X k) (X k)).2.n, .slice ao2 (doP (rB B X k) (X k)).2.orders.length co2, .slice al2 (doP (rB B X k) (X k)).2.locked.length cl2, .slice ac2 (doP (rB B X k) (X k)).2.occ.length cc2] 39)).heap.size = w2.heap.size + 1 := (alloc_size _ _).trans (by rw [sY]); have s2 : ((Y.alloc (.cells #[.int .i64 (doP (rB B X k) (X k)).1, .int .i64 (doP (rB B X k) (X k)).2.n, .slice ao2 (doP (rB B X k) (X k)).2.orders.length co2, .slice al2 (doP (rB B X k) (X k)).2.locked.length cl2, .slice ac2 (doP (rB B X k) (X k)).2.occ.length cc2] 39)).alloc (.cells #[.int .i64 (doP (rB B X k) (X k)).1, .int .i64 (doP (rB B X k) (X k)).2.n, .slice ao2 (doP (rB B X k) (X k)).2.orders.length co2, .slice al2 (doP (rB B X k) (X k)).2.locked.length cl2, .slice ac2 (doP (rB B X k) (X k)).2.occ.length cc2] 39)).heap.size = w2.heap.size + 2 := (alloc_size _ _).trans (by rw [s1]); have hf : Fr (fun x => x = w1.heap.size) wr ((Y.alloc (.cells #[.int .i64 (doP (rB B X k) (X k)).1, .int .i64 (doP (rB B X k) (X k)).2.n, .slice ao2 (doP (rB B X k) (X k)).2.orders.length co2, .slice al2 (doP (rB B X k) (X k)).2.locked.length cl2, .slice ac2 (doP (rB B X k) (X k)).2.occ.length cc2] 39)).alloc (.cells #[.int .i64 (doP (rB B X k) (X k)).1, .int .i64 (doP (rB B X k) (X k)).2.n, .slice ao2 (doP (rB B X k) (X k)).2.orders.length co2, .slice al2 (doP (rB B X k) (X k)).2.locked.length cl2, .slice ac2 (doP (rB B X k) (X k)).2.occ.length cc2] 39)) := (fY.alloc _).alloc _; have hBV : OwnBook ((Y.alloc (.cells #[.int .i64 (doP (rB B X k) (X k)).1, .int .i64 (doP (rB B X k) (X k)).2.n, .slice ao2 (doP (rB B X k) (X k)).2.orders.length co2, .slice al2 (doP (rB B X k) (X k)).2.locked.length cl2, .slice ac2 (doP (rB B X k) (X k)).2.occ.length cc2] 39)).alloc (.cells #[.int .i64 (doP (rB B X k) (X k)).1, .int .i64 (doP (rB B X k) (X k)).2.n, .slice ao2 (doP (rB B X k) (X k)).2.orders.length co2, .slice al2 (doP (rB B X k) (X k)).2.locked.length cl2, .slice ac2 (doP (rB B X k) (X k)).2.occ.length cc2] 39)) wr.heap.size (bookV (doP (rB B X k) (X k)).2 (⟨ao2, co2, al2, cl2, ac2, cc2⟩ : Sl)) (doP (rB B X k) (X k)).2 KD := (oY.below (below1 Y (.cells #[.int .i64 (doP (rB B X k) (X k)).1, .int .i64 (doP (rB B X k) (X k)).2.n, .slice ao2 (doP (rB B X k) (X k)).2.orders.length co2, .slice al2 (doP (rB B X k) (X k)).2.locked.length cl2, .slice ac2 (doP (rB B X k) (X k)).2.occ.length cc2] 39))).below (below1 (Y.alloc (.cells #[.int .i64 (doP (rB B X k) (X k)).1, .int .i64 (doP (rB B X k) (X k)).2.n, .slice ao2 (doP (rB B X k) (X k)).2.orders.length co2, .slice al2 (doP (rB B X k) (X k)).2.locked.length cl2, .slice ac2 (doP (rB B X k) (X k)).2.occ.length cc2] 39)) (.cells #[.int .i64 (doP (rB B X k) (X k)).1, .int .i64 (doP (rB B X k) (X k)).2.n, .slice ao2 (doP (rB B X k) (X k)).2.orders.length co2, .slice al2 (doP (rB B X k) (X k)).2.locked.length cl2, .slice ac2 (doP (rB B X k) (X k)).2.occ.length cc2] 39))
    have yPV : ((Y.alloc (.cells #[.int .i64 (doP (rB B X k) (X k)).1, .int .i64 (doP (rB B X k) (X k)).2.n, .slice ao2 (doP (rB B X k) (X k)).2.orders.length co2, .slice al2 (doP (rB B X k) (X k)).2.locked.length cl2, .slice ac2 (doP (rB B X k) (X k)).2.occ.length cc2] 39)).alloc (.cells #[.int .i64 (doP (rB B X k) (X k)).1, .int .i64 (doP (rB B X k) (X k)).2.n, .slice ao2 (doP (rB B X k) (X k)).2.orders.length co2, .slice al2 (doP (rB B X k) (X k)).2.locked.length cl2, .slice ac2 (doP (rB B X k) (X k)).2.occ.length cc2] 39)).heap[w1.heap.size]? = some (.cells #[.int .i64 (doP (rB B X k) (X k)).2.n, .slice ao2 (doP (rB B X k) (X k)).2.orders.length co2, .slice al2 (doP (rB B X k) (X k)).2.locked.length cl2, .slice ac2 (doP (rB B X k) (X k)).2.occ.length cc2] 37 (0, 0)) := by
     rw [Deep.blk_alloc_lt _ _ _ (by omega), Deep.blk_alloc_lt _ _ _ (by omega)]; exact xY
    have hn : ((Y.alloc (.cells #[.int .i64 (doP (rB B X k) (X k)).1, .int .i64 (doP (rB B X k) (X k)).2.n, .slice ao2 (doP (rB B X k) (X k)).2.orders.length co2, .slice al2 (doP (rB B X k) (X k)).2.locked.length cl2, .slice ac2 (doP (rB B X k) (X k)).2.occ.length cc2] 39)).alloc (.cells #[.int .i64 (doP (rB B X k) (X k)).1, .int .i64 (doP (rB B X k) (X k)).2.n, .slice ao2 (doP (rB B X k) (X k)).2.orders.length co2, .slice al2 (doP (rB B X k) (X k)).2.locked.length cl2, .slice ac2 (doP (rB B X k) (X k)).2.occ.length cc2] 39)).heap[w2.heap.size + 1]? = some (.cells #[.int .i64 (doP (rB B X k) (X k)).1, .int .i64 (doP (rB B X k) (X k)).2.n, .slice ao2 (doP (rB B X k) (X k)).2.orders.length co2, .slice al2 (doP (rB B X k) (X k)).2.locked.length cl2, .slice ac2 (doP (rB B X k) (X k)).2.occ.length cc2] 39 (0, 0)) := by
     rw [← s1]; exact Deep.blk_alloc_new _ _
    have zV : w2.heap.size + 1 < ((Y.alloc (.cells #[.int .i64 (doP (rB B X k) (X k)).1, .int .i64 (doP (rB B X k) (X k)).2.n, .slice ao2 (doP (rB B X k) (X k)).2.orders.length co2, .slice al2 (doP (rB B X k) (X k)).2.locked.length cl2, .slice ac2 (doP (rB B X k) (X k)).2.occ.length cc2] 39)).alloc (.cells #[.int .i64 (doP (rB B X k) (X k)).1, .int .i64 (doP (rB B X k) (X k)).2.n, .slice ao2 (doP (rB B X k) (X k)).2.orders.length co2, .slice al2 (doP (rB B X k) (X k)).2.locked.length cl2, .slice ac2 (doP (rB B X k) (X k)).2.occ.length cc2] 39)).heap.size := by omega
    clear fY oY xY sY s1 s2; obtain ⟨V, hV⟩ : ∃ V, V = ((Y.alloc (.cells #[.int .i64 (doP (rB B X k) (X k)).1, .int .i64 (doP (rB B X k) (X k)).2.n, .slice ao2 (doP (rB B X k) (X k)).2.orders.length co2, .slice al2 (doP (rB B X k) (X k)).2.locked.length cl2, .slice ac2 (doP (rB B X k) (X k)).2.occ.length cc2] 39)).alloc (.cells #[.int .i64 (doP (rB B X k) (X k)).1, .int .i64 (doP (rB B X k) (X k)).2.n, .slice ao2 (doP (rB B X k) (X k)).2.orders.length co2, .slice al2 (doP (rB B X k) (X k)).2.locked.length cl2, .slice ac2 (doP (rB B X k) (X k)).2.occ.length cc2] 39)) := ⟨_, rfl⟩; rw [← hV] at hf hBV yPV hn zV ⊢; clear hV
    have n4 : ∀ j u', (cellsD (doP (rB B X k) (X k)).1 (doP (rB B X k) (X k)).2 (⟨ao2, co2, al2, cl2, ac2, cc2⟩ : Sl))[j]? = some u' → V.cell? ((⟨w2.heap.size + 1, 0, none⟩ : Addr).add j) = some u' := by
     intro j u' hu; rw [add0]; refine cell_of_box hn ?_; rw [← Array.getElem?_toList]; exact hu
    have R4 : RowDones V (w1.heap.size + 1) u k (rC B X) (fun i => rB B X (i + 1)) sl K := HR.out.1.row.fr hf (fun x hx e => by omega); have szV : wr.heap.size ≤ V.heap.size := hf.size; have hlw := HR.out.1.lw; refine wpList_append_own_at _ rfl _ _ 26 rfl (w1.heap.size + 1) 39 id _ 5 88 Tryz.underlying26 hid zd0 zd1 zd2 rfl (by decide) u k (flatD (rC B X) (fun i => rB B X (i + 1)) sl k) rfl R4.row ⟨w2.heap.size + 1, 0, none⟩ 1 1 (cellsD (doP (rB B X k) (X k)).1 (doP (rB B X k) (X k)).2 (⟨ao2, co2, al2, cl2, ac2, cc2⟩ : Sl)) rfl rfl n4 ?_ (by unfold maxLen; omega) (by omega) (by omega) ?_
    ·
     intro x hx; simp only [cellsD, List.mem_cons, List.not_mem_nil, or_false] at hx
     rcases hx with rfl | rfl | rfl | rfl | rfl <;> rfl
    intro vU wU hownU hgU _ hbU; have HU : Hid (RunInv w wU w1.heap.size (w1.heap.size + 1) vU (k + 1) B X (put1 sl k (⟨ao2, co2, al2, cl2, ac2, cc2⟩ : Sl)) (put1 K k KD) (⟨ao2, co2, al2, cl2, ac2, cc2⟩ : Sl) KD) := HR.out.1.step hf (by simp only [rB]; rw [if_neg H1.out]) rfl yPV hBV hownU hgU hbU; obtain ⟨adU, cU, GU, rfl, -, -⟩ := HU.out.row.done; clear hownU hgU hbU n4 R4 szV hf hBV yPV hn zV HR H2 H1 t1' z2 zP; go_wp2; go_roundw
    case rel => exact ⟨k + 1, _, _, _, _, _, by omega, by go_num, rfl, HU.out⟩
    case measure => simp [intOf]; omega
  ·
   obtain rfl : k = n := by omega
   have HR : Hid (RunInv w wr w1.heap.size (w1.heap.size + 1) u k B X sl K s Kb) := hi; obtain ⟨ad', c', G', rfl, ha, hd⟩ := hi.row.done; have HD : Hid (OwnDones wr (w1.heap.size + 1) k (rC B X) (fun i => rB B X (i + 1)) G' sl K) := hd; clear hi hd; go_wp2; go_ret; refine ⟨k, ad', c', G', sl, K, Or.inl ⟨HO.out, rfl⟩, rfl, ha, ?_, HR.out.bel⟩; rw [← HBe.out]; exact HD.out.mono (by have := HR.out.wP; omega)
end Go.Proofs.YtdlaekjofgbjcaaGreatDoor
