import Derived.Test.YtdlaekjofgbjcaaGreatDoorDraw2F
import Derived.Test.YtdlaekjofgbjcaaGreatDoorRowZ
import Derived.Test.YtdlaekjofgbjcaaGreatDoorAnsY
/-
 Events drawn one after another: spec.l4run. Mine, by program (wip/draw3.py), by template (wip/gen.py).
-/
namespace Go.Proofs.YtdlaekjofgbjcaaGreatDoor
open Go.RowKit
theorem Tryz.infoEvent : (Tryz.prog.info? 32).map (fun i => (i.zero, i.size, i.bytes)) = some (some (.agg #[.int .i64 0, .int .i64 0, .string ⟨#[]⟩, .int .i64 0, .slice none 0 0, .string ⟨#[]⟩]), 6, 80) := by kernel_rfl
theorem n_ok {B : Bk} {E : Ev} (hok : EvOk B E) : (doP B E).2.n = B.n := by
 have hin := EvOk.some hok; unfold In at hin; rcases (show E.op = 1 ∨ E.op = 2 ∨ E.op = 3 ∨ E.op = 4 ∨ E.op = 5 ∨ E.op = 6 ∨ E.op = 7 ∨ E.op = 8 ∨ E.op = 9 by omega) with o | o | o | o | o | o | o | o | o
 · rw [doP_write hok o]; unfold doWrite; split <;> rfl
 · rw [doP_give hok o]; unfold doGive; split <;> rfl
 ·
  rw [doP_repeat hok o]; unfold doRepeat; split
  · rfl
  ·
   split
   · rfl
   · split <;> rfl
 ·
  rw [doP_back hok o]; unfold doBack; split
  · rfl
  · split <;> rfl
 · rw [doP_cancel hok o]; unfold doCancel; split <;> rfl
 · rw [doP_lock hok o]; unfold doLock; split <;> rfl
 · rw [doP_unlock hok o]; rfl
 · rw [doP_occ hok o]; rfl
 · rw [doP_free hok o]; rfl
theorem ok_of_code {B : Bk} {E : Ev} (h : ¬ (doP B E).1 = 1) : EvOk B E := by
 by_cases hok : EvOk B E
 · exact hok
 ·
  rw [doP_none hok] at h; exact absurd rfl h
theorem right_first {m : Int} (h : 1 ≤ m ∧ m ≤ 60) : Right (beginBk m) := by
 unfold beginBk; rw [if_pos h]; exact ⟨⟨h, by simp; omega, by simp; omega, by simp⟩, fun i hi => absurd hi (by simp), fun i hi => absurd hi (by simp), fun i hi => absurd hi (by simp)⟩
abbrev dnC (x : Int × Bk) (ao : Option Addr) (co : Nat) (al : Option Addr) (cl : Nat) (ac : Option Addr) (cc : Nat) : Obj := .cells #[.int .i64 x.1, .int .i64 x.2.n, .slice ao x.2.orders.length co, .slice al x.2.locked.length cl, .slice ac x.2.occ.length cc] 39
abbrev evC (x : Ev) (a : Option Addr) (c : Nat) : Obj := .cells #[.int .i64 x.op, .int .i64 x.of_, .string x.holder, .int .i64 x.kind, .slice a x.secs.length c, .string x.text] 32
def Drawable (B : Bk) : Prop := Tiny B ∧ Names B ∧ 1 ≤ B.n ∧ B.n ≤ 9 ∧ Right B
theorem Drawable.step {B : Bk} {E : Ev} (h : Drawable B) (h1 : ¬ (doP B E).1 = 1) : Drawable (doP B E).2 := ⟨tiny_doP _ _, names_doP _ _, by rw [n_ok (ok_of_code h1)]; exact h.2.2.1, by rw [n_ok (ok_of_code h1)]; exact h.2.2.2.1, right_doP (ok_of_code h1)⟩
theorem Drawable.small {B : Bk} (h : Drawable B) : B.orders.length ≤ 1048576 ∧ ∀ i, i < B.orders.length → (bX B i).secs.length ≤ 1048576 ∧ (bX B i).holder.size ≤ 1048576 :=
 ⟨Nat.le_trans h.1.o (by decide), fun i hi => ⟨Nat.le_trans (h.1.s i hi) (by decide), Nat.le_trans (h.2.1 i hi) (by decide)⟩⟩
structure L4 (w wr : World) (p P : Nat) (ad : Option Addr) (n c : Nat) (V : Nat → UInt8) (t d : Nat) (u : Value) (k : Nat) (X : Nat → Ev) (sa : Nat → Option Addr) (sc : Nat → Nat) (B : Bk) (s : Sl) (K : Blk) (T : Nat) : Prop where
 fr : Fr (fun x => x = p) w wr
 cur : CurTo wr p ad n c V t d T
 box : wr.heap[P]? = some (.cells #[.int .i64 B.n, .slice s.ao B.orders.length s.co, .slice s.al B.locked.length s.cl, .slice s.ac B.occ.length s.cc] 37 (0, 0))
 own : OwnBook wr w.heap.size (bookV B s) B K
 dis : ∀ x, bookBlocks B K x → u.ownBlock ≠ some x ∧ x ≠ P
 row : RowEvs wr (P + 1) u k X sa sc
 pw : p < w.heap.size
 wP : w.heap.size ≤ P
 zP : P < wr.heap.size
 dr : Drawable B
 sm : ∀ i, i < k → SmallO (X i)
theorem L4.turn {w wr : World} {p P : Nat} {ad : Option Addr} {n c : Nat} {V : Nat → UInt8} {t d : Nat} {u : Value} {k : Nat} {X : Nat → Ev} {sa : Nat → Option Addr} {sc : Nat → Nat} {B : Bk} {s : Sl} {K : Blk} {T T' : Nat} (h : L4 w wr p P ad n c V t d u k X sa sc B s K T) {W : World} {S : Nat → Prop} (hf : Fr S wr W) (hS : ∀ x, S x → x = p ∨ wr.heap.size ≤ x) {d' : Nat} (hc : CurTo W p ad n c V t d' T') : L4 w W p P ad n c V t d' u k X sa sc B s K T' := by
 have hp := h.pw; have hP := h.wP; have hf' : Fr (fun x => x = p) wr W := hf.cut (fun i hi e => by rcases hS i e with q | q <;> omega); exact ⟨h.fr.trans hf', hc, (hf'.block _ h.zP (by omega)).trans h.box, h.own.fr hf' (fun x hx e => by have := h.own.blocks_low hx; omega), h.dis, h.row.fr hf' (fun x hx e => by omega), hp, hP, Nat.lt_of_lt_of_le h.zP hf.size, h.dr, h.sm⟩
theorem CurTo.fr {w w' : World} {p : Nat} {ad : Option Addr} {n c : Nat} {V : Nat → UInt8} {t d T : Nat} (h : CurTo w p ad n c V t d T) {S : Nat → Prop} (hf : Fr S w w') (hp : ¬ S p) (hb : 0 < n → ∀ b o, ad = some ⟨b, o, none⟩ → ¬ S b) : CurTo w' p ad n c V t d T := by
 obtain ⟨t', h1, h2, h3⟩ := h; exact ⟨t', h1, h2.fr hf hp hb, h3⟩
theorem CurTo.below {w w' : World} {p : Nat} {ad : Option Addr} {n c : Nat} {V : Nat → UInt8} {t d T : Nat} (h : CurTo w p ad n c V t d T) (hb : Below w.heap.size w w') : CurTo w' p ad n c V t d T := by
 obtain ⟨t', h1, h2, h3⟩ := h; exact ⟨t', h1, h2.below hb, h3⟩
theorem L4.push {w wr : World} {p P : Nat} {ad : Option Addr} {n c : Nat} {V : Nat → UInt8} {t d : Nat} {u : Value} {k : Nat} {X : Nat → Ev} {sa : Nat → Option Addr} {sc : Nat → Nat} {B : Bk} {s : Sl} {K : Blk} {T T' : Nat} (h : L4 w wr p P ad n c V t d u k X sa sc B s K T) (h0 : Cur w p ad n c V t) {Y wU : World} {u2 : Value} (hf : Fr (fun x => x = p ∨ x = P) wr Y) {d' : Nat} (hc : CurTo Y p ad n c V t d' T') {R : Bk} {s' : Sl} {K' : Blk}
  (hbox : Y.heap[P]? = some (.cells #[.int .i64 R.n, .slice s'.ao R.orders.length s'.co, .slice s'.al R.locked.length s'.cl, .slice s'.ac R.occ.length s'.cc] 37 (0, 0)))
  (hown : OwnBook Y w.heap.size (bookV R s') R K') (hdis : ∀ x, bookBlocks R K' x → u.ownBlock ≠ some x ∧ x ≠ P) (hdr : Drawable R)
  {E : Ev} {a : Option Addr} {cp : Nat} (ho : Y.ownsRow (P + 1) 3 1 (.slice a E.secs.length cp) E.secs.length (E.secs.map (Value.int .i64))) (hd : ∀ g, (Value.slice a E.secs.length cp).ownBlock = some g → wr.heap.size ≤ g) (hsm : SmallO E)
  (h2 : wU.ownsRow (P + 1) 32 6 u2 (k + 1) (flatE X sa sc k ++ cellsE E a cp)) (hg : Y.grownBy wU u.ownBlock) (hk : u2.ownBlock = u.ownBlock ∨ u2.ownBlock = some Y.heap.size) :
  L4 w wU p P ad n c V t d' u2 (k + 1) (put1 X k E) (put1 sa k a) (put1 sc k cp) R s' K' T' := by
 have hp := h.pw; have hP := h.wP; have hz := hf.size; have hzP := h.zP; have hgf : Fr (fun x => u.ownBlock = some x) Y wU := ⟨hg.os, hg.tape, hg.output, hg.size, fun j hj hn => hg.block j hj (fun e => hn e.symm)⟩; have ub : ∀ g, u.ownBlock = some g → P + 1 ≤ g ∧ g < wr.heap.size := fun g hg => owns_lt h.row.row hg; have rY : RowEvs Y (P + 1) u k X sa sc := h.row.fr hf (fun x hx e => by omega); have push := rY.push E a cp ho (fun g hg e => by have := hd g hg; have := (ub g e).2; omega) h2 hg hk; refine ⟨?_, ?_, ?_, ?_, fun x hx => ⟨fun e => ?_, (hdis x hx).2⟩, push, hp, hP, by have := hgf.size; omega, hdr, fun i hi => ?_⟩
 · exact (((h.fr.mono (T := fun x => x = p ∨ w.heap.size ≤ x) (fun i e => Or.inl e)).trans (hf.mono (fun i e => by omega))).trans (hgf.mono (fun i e => Or.inr (by have := (ub i e).1; omega)))).cut (fun i hi e => by omega)
 · exact hc.fr hgf (fun e => by have := (ub _ e).1; omega) (fun hn0 b o ha e => by have := h0.adlt hn0 ha; have := (ub _ e).1; omega)
 · exact (hgf.block P (by omega) (fun e => by have := (ub P e).1; omega)).trans hbox
 · exact hown.fr hgf (fun x hx e => (hdis x hx).1 e)
 ·
  rcases hk with q | q
  · rw [q] at e; exact (hdis x hx).1 e
  · rw [q] at e; have := Option.some.inj e; have := hown.blocks_lt hx; omega
 ·
  by_cases e : i = k
  · subst e; rw [put1_new]; exact hsm
  · rw [put1_old _ _ _ (by omega)]; exact h.sm i (by omega)
noncomputable def l4S (n : Nat) (V : Nat → UInt8) (t : Nat) (B : Bk) : Nat → Nat × Bk × (Nat → Ev)
 | 0 => (t, B, fun _ => Ev.zero)
 | k + 1 =>
  let s := l4S n V t B k
  let a := eventF n V s.1 s.2.1
  let x := if pickF n V a.2 30 = 0 then oddF n V (pickT a.2 30) s.2.1 else (a.1, pickT a.2 30)
  (x.2, if (doP s.2.1 x.1).1 = 1 then s.2.1 else (doP s.2.1 x.1).2, put1 s.2.2 k x.1)
theorem l4S_event {n : Nat} {V : Nat → UInt8} {t0 : Nat} {B0 : Bk} {k T : Nat} {B : Bk} {X : Nat → Ev} (h : l4S n V t0 B0 k = (T, B, X)) {E : Ev} {u4 r6 u6 : Nat} (hE : E = (eventF n V T B).1) (h4 : u4 = (eventF n V T B).2) (hr : r6 = pickF n V u4 30) (h6 : u6 = pickT u4 30) (h0 : ¬ r6 = 0) :
  l4S n V t0 B0 (k + 1) = (u6, if (doP B E).1 = 1 then B else (doP B E).2, put1 X k E) := by
 simp only [l4S, h]; rw [← h4, ← hr, ← h6, ← hE, if_neg h0]
theorem l4S_odd {n : Nat} {V : Nat → UInt8} {t0 : Nat} {B0 : Bk} {k T : Nat} {B : Bk} {X : Nat → Ev} (h : l4S n V t0 B0 k = (T, B, X)) {u4 r6 u6 u7 : Nat} {F : Ev} (h4 : u4 = (eventF n V T B).2) (hr : r6 = pickF n V u4 30) (h6 : u6 = pickT u4 30) (h0 : r6 = 0) (hF : F = (oddF n V u6 B).1) (h7 : u7 = (oddF n V u6 B).2) :
  l4S n V t0 B0 (k + 1) = (u7, if (doP B F).1 = 1 then B else (doP B F).2, put1 X k F) := by
 simp only [l4S, h]; rw [← h4, ← hr, ← h6, if_pos h0, ← hF, ← h7]
def RetL4 (e : Ending) (w w' : World) (p : Nat) (ad : Option Addr) (n c : Nat) (V : Nat → UInt8) (t most : Nat) : Prop :=
 ∃ m u v k X sa sc B K, e = .returned (.tuple #[.int .i64 m, u, v]) ∧ 1 ≤ m ∧ m ≤ 9 ∧ k ≤ most ∧ RowEvs w' w.heap.size u k X sa sc ∧ (∀ i, i < k → SmallO (X i)) ∧ OwnBook w' w.heap.size v B K ∧ Drawable B ∧ (∃ T, CurTo w' p ad n c V t (100 + 450 * most) T) ∧ Fr (fun x => x = p) w w' ∧ Hid (m = 1 + (pickF n V t 9 : Int) ∧ k = pickF n V (pickT t 9) (most : Int) ∧ X = (l4S n V (pickT (pickT t 9) (most : Int)) (beginBk m) k).2.2)
theorem RowEvs.low {w : World} {lo lo' : Nat} {u : Value} {n : Nat} {X : Nat → Ev} {sa : Nat → Option Addr} {sc : Nat → Nat} (h : RowEvs w lo u n X sa sc) (hl : lo' ≤ lo) : RowEvs w lo' u n X sa sc := by
 refine ⟨?_, fun i hi => owns_low (h.own i hi) hl, h.dis⟩; obtain ⟨h1, h2⟩ := h.row; refine ⟨h1, ?_⟩; rcases h2 with h2 | ⟨g, cap, cur, hv, hg, r⟩
 · exact Or.inl h2
 · exact Or.inr ⟨g, cap, cur, hv, Nat.le_trans hl hg, r⟩
set_option maxRecDepth 20000 in
set_option maxHeartbeats 16000000 in
theorem l4run_any (p : Nat) (ad : Option Addr) (n c : Nat) (V : Nat → UInt8) (t most : Nat) (w : World) (ht : t ≤ 1000) (hn : n ≤ 1048576) (hm : most ≤ 60) (hc : Cur w p ad n c V t) :
  Calls Tryz.prog 20 #[.pointer (some ⟨p, 0, none⟩), .int .i64 (most : Int)] w fun e w' => RetL4 e w w' p ad n c V t most := by
 have hp := hc.lt; have HC : Hid (Cur w p ad n c V t) := hc; obtain ⟨ie, hie, ze0, ze1, ze2⟩ := info_parts Tryz.infoEvent; have B1 := below1 w (.cells #[.int .i64 0, .slice none 0 0, .slice none 0 0, .slice none 0 0] 37)
 go_enter Tryz.func20, Tryz.ntmps20
 go_wp2_with fail
 refine (pick_any p ad n c V t 9 _ (by omega) hn (by omega) (hc.below B1)).mono ?_; rintro e w1 ⟨⟨r, rfl, -, hr, hF1⟩, ⟨u1, hu1, hv1, hT1⟩, hf1⟩; have hr9 : r < 9 := by have := hr (by omega); omega
 have xR := (hf1.block w.heap.size (by simp) (by omega)).trans (Deep.blk_alloc_new _ _); have zR : w.heap.size < w1.heap.size := by have := hf1.size; simp at this; omega
 have H1 : Hid (CurTo w1 p ad n c V t 2 u1 ∧ Fr (fun x => x = p) w w1 ∧ w1.heap[w.heap.size]? = some (.cells #[.int .i64 0, .slice none 0 0, .slice none 0 0, .slice none 0 0] 37 (0, 0))) := ⟨⟨u1, hu1, hv1, rfl⟩, (Fr.of_below B1).trans hf1, xR⟩; clear hc B1 hr hv1 hf1 hu1 xR
 go_wp2_with fail
 refine (specBegin_any (1 + (r : Int)) w1).mono ?_; rintro e w2 ⟨v, rfl, ⟨K0, hB0⟩, hb⟩; obtain ⟨ao, co, al, cl, ac, cc, hv, -⟩ := hB0.shape; subst hv; have zB := hb.size; have H2 : Hid (CurTo w2 p ad n c V t 2 u1 ∧ Fr (fun x => x = p) w w2 ∧ w2.heap[w.heap.size]? = some (.cells #[.int .i64 0, .slice none 0 0, .slice none 0 0, .slice none 0 0] 37 (0, 0)) ∧ OwnBook w2 (w.heap.size + 1) (bookV (beginBk (1 + (r : Int))) ⟨ao, co, al, cl, ac, cc⟩) (beginBk (1 + (r : Int))) K0) := ⟨H1.out.1.below hb, H1.out.2.1.trans (Fr.of_below hb), (hb.block _ zR).trans H1.out.2.2, hB0.mono zR⟩; have dB : Drawable (beginBk (1 + (r : Int))) := ⟨(begin_tiny _).1, (begin_tiny _).2.1, by rw [begin_n (by omega)]; omega, by rw [begin_n (by omega)]; omega, right_first ⟨by omega, by omega⟩⟩; have HD : Hid (Drawable (beginBk (1 + (r : Int)))) := dB; clear hB0 hb H1 dB
 go_wp2_with fail
 have B3 := below1 w2 (.cells #[.int .i64 (beginBk (1 + (r : Int))).n, .slice ao (beginBk (1 + (r : Int))).orders.length co, .slice al (beginBk (1 + (r : Int))).locked.length cl, .slice ac (beginBk (1 + (r : Int))).occ.length cc] 37); have H3 : Hid (CurTo (w2.alloc (.cells #[.int .i64 (beginBk (1 + (r : Int))).n, .slice ao (beginBk (1 + (r : Int))).orders.length co, .slice al (beginBk (1 + (r : Int))).locked.length cl, .slice ac (beginBk (1 + (r : Int))).occ.length cc] 37)) p ad n c V t 2 u1) := H2.out.1.below B3; obtain ⟨t3, ht3, hc3, hg3⟩ := H3.out; refine (pick_any p ad n c V t3 (most : Int) _ (by omega) hn (by omega) hc3).mono ?_; clear hc3; rintro e w3 ⟨⟨q0, rfl, hq0, hr0, hF3⟩, ⟨u3, hu3, hv3, hT3⟩, hf3⟩
 have hq : q0 ≤ most := by
  by_cases h1 : (most : Int) ≤ 1
  · have := hq0 h1; omega
  · have := hr0 (by omega); omega
 have z3 : w2.heap.size < w3.heap.size := by have := hf3.size; simp at this; omega
 have I0 : L4 w w3 p w2.heap.size ad n c V t 10 (.slice none 0 0) 0 (fun _ => Ev.zero) (fun _ => none) (fun _ => 0) (beginBk (1 + (r : Int))) ⟨ao, co, al, cl, ac, cc⟩ K0 u3 :=
  ⟨(H2.out.2.1.trans (Fr.of_below B3)).trans hf3, ⟨u3, by omega, hv3, rfl⟩, (hf3.block _ (by simp) (by omega)).trans (Deep.blk_alloc_new _ _), ((H2.out.2.2.2.below B3).fr hf3 (fun x hx e => by have := H2.out.2.2.2.blocks_low hx; omega)).mono (by omega), fun x hx => ⟨fun e => (by cases e), by have := H2.out.2.2.2.blocks_lt hx; omega⟩, rowEvs_nil _ _ _ _ _, hp, by omega, z3, HD.out, fun i hi => absurd hi (by omega)⟩
 have xR3 : w3.heap[w.heap.size]? = some (.cells #[.int .i64 0, .slice none 0 0, .slice none 0 0, .slice none 0 0] 37 (0, 0)) := (hf3.block _ (by simp; omega) (by omega)).trans ((B3.block _ (by omega)).trans H2.out.2.2.1); have oX : ∀ x, bookBlocks (beginBk (1 + (r : Int))) K0 x → x ≠ w.heap.size := fun x hx e => by have := H2.out.2.2.2.blocks_low hx; omega
 have HI : Hid (L4 w w3 p w2.heap.size ad n c V t 10 (.slice none 0 0) 0 (fun _ => Ev.zero) (fun _ => none) (fun _ => 0) (beginBk (1 + (r : Int))) ⟨ao, co, al, cl, ac, cc⟩ K0 u3 ∧ w3.heap[w.heap.size]? = some (.cells #[.int .i64 0, .slice none 0 0, .slice none 0 0, .slice none 0 0] 37 (0, 0)) ∧ ∀ x, bookBlocks (beginBk (1 + (r : Int))) K0 x → x ≠ w.heap.size) := ⟨I0, xR3, oX⟩; have zz2 : w.heap.size < w2.heap.size := by omega
 clear I0 hv3 hf3 hu3 ht3 hq0 hr0 H2 H3 B3 xR3 oX HD z3 zB; go_wp2
 go_loopw [9, 10] (fun o i wr => ∃ (k q : Nat) (u : Value) (X : Nat → Ev) (sa : Nat → Option Addr) (sc : Nat → Nat) (B : Bk) (s : Sl) (K : Blk) (T : Nat), k + q = q0 ∧ i = .int .i64 (q : Int) ∧ o = u ∧ L4 w wr p w2.heap.size ad n c V t (10 + 450 * k) u k X sa sc B s K T ∧ wr.heap[w.heap.size]? = some (.cells #[.int .i64 0, .slice none 0 0, .slice none 0 0, .slice none 0 0] 37 (0, 0)) ∧ Hid (l4S n V u3 (beginBk (1 + (r : Int))) k = (T, B, X)) ∧ ∀ x, bookBlocks B K x → x ≠ w.heap.size) (fun _ i _ => (intOf i).toNat)
 case atStart => exact ⟨0, q0, _, _, _, _, _, _, _, _, by omega, rfl, rfl, HI.out.1, HI.out.2.1, rfl, HI.out.2.2⟩
 case round =>
  obtain ⟨k, q, u, X, sa, sc, B, s, K, T, hk, rfl, ho, hi, hR, hL9, hnR⟩ := hrel; obtain rfl := ho.symm; clear HI
  by_cases hlt : 0 < q
  ·
   obtain ⟨q', rfl⟩ : ∃ q', q = q' + 1 := ⟨q - 1, by omega⟩; obtain ⟨p0, p1, p2, p3⟩ := box_cells hi.box; have zw2 : w2.heap.size < wr.heap.size := hi.zP; have HR : Hid (L4 w wr p w2.heap.size ad n c V t (10 + 450 * k) u k X sa sc B s K T ∧ wr.heap[w.heap.size]? = some (.cells #[.int .i64 0, .slice none 0 0, .slice none 0 0, .slice none 0 0] 37 (0, 0)) ∧ ∀ x, bookBlocks B K x → x ≠ w.heap.size) := ⟨hi, hR, hnR⟩; clear hi hR hnR; have zk : 450 * k ≤ 27000 := by omega
   go_wp2_with fail
   obtain ⟨t4, ht4, hc4, hg4⟩ := HR.out.1.cur; refine (event_any p ad n c V t4 w.heap.size _ B K _ (by omega) hn hc4 HR.out.1.own hp HR.out.1.dr.1 HR.out.1.dr.2.1 ⟨by have := HR.out.1.dr.2.2.1; omega, by have := HR.out.1.dr.2.2.2.1; omega⟩).mono ?_; clear hc4; rintro e w4 ⟨⟨v4, E, rfl, ⟨sv, rfl, ho4⟩, hs4, hF4⟩, ⟨u4, hu4, hv4, hT4⟩, hf4⟩; obtain ⟨g4, a4, c4, rfl, -⟩ := ownL_of ho4; have zs : wr.heap.size ≤ w4.heap.size := hf4.size; have H4 : Hid (L4 w w4 p w2.heap.size ad n c V t (10 + 450 * k + 200) u k X sa sc B s K u4 ∧ w4.ownsRow wr.heap.size 3 1 (.slice a4 E.secs.length c4) E.secs.length (E.secs.map (Value.int .i64)) ∧ SmallO E ∧ Fr (fun x => x = p) wr w4) := ⟨HR.out.1.turn hf4 (fun x e => Or.inl e) ⟨u4, by omega, hv4, rfl⟩, ho4, hs4.odd, hf4⟩; clear ho4 hs4 hv4 hf4 hu4 ht4 p0 p1 p2 p3
   go_wp2_with fail
   have B4 := below1 w4 (evC E a4 c4); have H5 : Hid (L4 w (w4.alloc (evC E a4 c4)) p w2.heap.size ad n c V t (10 + 450 * k + 200) u k X sa sc B s K u4 ∧ EBox (w4.alloc (evC E a4 c4)) wr.heap.size w4.heap.size E a4 c4 ∧ Fr (fun x => x = p) wr (w4.alloc (evC E a4 c4))) := ⟨H4.out.1.turn (Fr.of_below (S := fun x => x = p) B4) (fun x e => Or.inl e) (H4.out.1.cur.below B4), ⟨Deep.blk_alloc_new _ _, owns_below H4.out.2.1 B4, fun g hg => by have := (owns_lt H4.out.2.1 hg).2; omega⟩, H4.out.2.2.2.trans (Fr.of_below B4)⟩; have HSm : Hid (SmallO E) := H4.out.2.2.1; obtain ⟨W5, hW5⟩ : ∃ W5, W5 = w4.alloc (evC E a4 c4) := ⟨_, rfl⟩; rw [← hW5] at H5 ⊢; clear hW5 B4 H4; obtain ⟨t5, ht5, hc5, hg5⟩ := H5.out.1.cur; refine (pick_any p ad n c V t5 30 _ (by omega) hn (by omega) hc5).mono ?_; clear hc5; rintro e w6 ⟨⟨r6, rfl, -, -, hF6⟩, ⟨u6, hu6, hv6, hT6⟩, hf6⟩; have H6 : Hid (L4 w w6 p w2.heap.size ad n c V t (10 + 450 * k + 202) u k X sa sc B s K u6 ∧ EBox w6 wr.heap.size w4.heap.size E a4 c4 ∧ Fr (fun x => x = p) wr w6) := ⟨H5.out.1.turn hf6 (fun x e => Or.inl e) ⟨u6, by omega, hv6, rfl⟩, H5.out.2.1.fr hf6 (by omega) (fun g hg => by omega), H5.out.2.2.trans hf6⟩; clear hv6 hf6 hu6 ht5 H5
   by_cases h6 : (r6 : Int) = 0
   ·
    have t6 : ((r6 : Int) == 0) = true := by simpa using h6
    have HZ6 : Hid (r6 = 0) := by show r6 = 0; omega
    clear h6; obtain ⟨p0, p1, p2, p3⟩ := box_cells H6.out.1.box; have f0 : w6.frozen? ⟨w4.heap.size, 0, none⟩ = false := frozen_of_box H6.out.2.1.box; have zp6 : w4.heap.size < w6.heap.size := H6.out.2.1.lt
    go_wp2_with fail
    obtain ⟨t7, ht7, hc7, hg7⟩ := H6.out.1.cur; refine (odd_any p ad n c V t7 w.heap.size _ B K _ (by omega) hn hc7 H6.out.1.own hp HR.out.1.dr.1 HR.out.1.dr.2.1 ⟨by have := HR.out.1.dr.2.2.1; omega, by have := HR.out.1.dr.2.2.2.1; omega⟩ (by have := HR.out.1.dr.2.2.1; omega)).mono ?_; clear hc7; rintro e w7 ⟨⟨v7, F, rfl, ⟨sv, rfl, ho7⟩, hs7, hF7⟩, ⟨u7, hu7, hv7, hT7⟩, hf7⟩; obtain ⟨g7, a7, c7, rfl, -⟩ := ownL_of ho7; have zs7 : w6.heap.size ≤ w7.heap.size := hf7.size; have X7 : EBox w7 wr.heap.size w4.heap.size E a4 c4 := H6.out.2.1.fr hf7 (by omega) (fun g hg => by omega); have hlt6 : wr.heap.size ≤ w6.heap.size := by omega
    have H7 : Hid (L4 w (putE w7 w4.heap.size (.int .i64 F.op) (.int .i64 F.of_) (.string F.holder) (.int .i64 F.kind) (.slice a7 F.secs.length c7) (.string F.text)) p w2.heap.size ad n c V t (10 + 450 * k + 440) u k X sa sc B s K u7 ∧ EBox (putE w7 w4.heap.size (.int .i64 F.op) (.int .i64 F.of_) (.string F.holder) (.int .i64 F.kind) (.slice a7 F.secs.length c7) (.string F.text)) wr.heap.size w4.heap.size F a7 c7 ∧ Fr (fun x => x = p) wr (putE w7 w4.heap.size (.int .i64 F.op) (.int .i64 F.of_) (.string F.holder) (.int .i64 F.kind) (.slice a7 F.secs.length c7) (.string F.text))) := by
     have c7' : CurTo w7 p ad n c V t (10 + 450 * k + 440) u7 := ⟨u7, by omega, hv7, rfl⟩; have f7 : Fr (fun x => x = p) wr w7 := H6.out.2.2.trans hf7; have fp := putE_fr w7 w4.heap.size (.int .i64 F.op) (.int .i64 F.of_) (.string F.holder) (.int .i64 F.kind) (.slice a7 F.secs.length c7) (.string F.text); have f7' : Fr (fun x => x = p ∨ x = w4.heap.size) wr (putE w7 w4.heap.size (.int .i64 F.op) (.int .i64 F.of_) (.string F.holder) (.int .i64 F.kind) (.slice a7 F.secs.length c7) (.string F.text)) := (f7.mono (fun i e => Or.inl e)).trans (fp.mono (fun i e => Or.inr e)); exact ⟨HR.out.1.turn f7' (fun x e => by omega) (c7'.fr fp (by omega) (fun h0 b o ha e => by have := HC.out.adlt h0 ha; omega)), X7.put F a7 c7 (owns_low ho7 hlt6) (fun g hg => by have := (owns_lt ho7 hg).1; omega), f7'.cut (fun i hi e => by omega)⟩
    have HSo : Hid (SmallO F) := hs7; obtain ⟨q0', q1, q2, q3, q4, q5⟩ := ev_cells X7.box; have g0 : w7.frozen? ⟨w4.heap.size, 0, none⟩ = false := frozen_of_box X7.box; have g1 : w7.frozen? ⟨w4.heap.size, 1, none⟩ = false := frozen_of_box X7.box; have g2 : w7.frozen? ⟨w4.heap.size, 2, none⟩ = false := frozen_of_box X7.box; have g3 : w7.frozen? ⟨w4.heap.size, 3, none⟩ = false := frozen_of_box X7.box; have g4 : w7.frozen? ⟨w4.heap.size, 4, none⟩ = false := frozen_of_box X7.box; have g5 : w7.frozen? ⟨w4.heap.size, 5, none⟩ = false := frozen_of_box X7.box; have zp7 : w4.heap.size < w7.heap.size := X7.lt; clear X7 ho7 hs7 hv7 hf7 hu7 ht7 p0 p1 p2 p3 f0 H6 HSm
    go_upto_region 10 with (fail)
    have hCh : ((((((w7.setCell ⟨w4.heap.size, 0, none⟩ (.int .i64 F.op)).setCell ⟨w4.heap.size, 1, none⟩ (.int .i64 F.of_)).setCell ⟨w4.heap.size, 2, none⟩ (.string F.holder)).setCell ⟨w4.heap.size, 3, none⟩ (.int .i64 F.kind)).setCell ⟨w4.heap.size, 4, none⟩ (.slice a7 F.secs.length c7)).setCell ⟨w4.heap.size, 5, none⟩ (.string F.text)) = putE w7 w4.heap.size (.int .i64 F.op) (.int .i64 F.of_) (.string F.holder) (.int .i64 F.kind) (.slice a7 F.secs.length c7) (.string F.text) := rfl; rw [hCh]; clear hCh q0' q1 q2 q3 q4 q5 g0 g1 g2 g3 g4 g5; obtain ⟨Y, hY⟩ : ∃ Y, Y = putE w7 w4.heap.size (.int .i64 F.op) (.int .i64 F.of_) (.string F.holder) (.int .i64 F.kind) (.slice a7 F.secs.length c7) (.string F.text) := ⟨_, rfl⟩; rw [← hY] at H7 ⊢; clear hY; obtain ⟨p0, p1, p2, p3⟩ := box_cells H7.out.1.box; obtain ⟨z0, z1, z2, z3, z4, z5⟩ := ev_cells H7.out.2.1.box; have zPe : w4.heap.size < Y.heap.size := H7.out.2.1.lt; have zPy : w2.heap.size < Y.heap.size := H7.out.1.zP
    go_wp2_with fail
    refine (specDo_any _ _ B F _ HR.out.1.dr.small ⟨by have := HR.out.1.dr.2.2.1; omega, by have := HR.out.1.dr.2.2.2.1; omega⟩ (Nat.le_trans HSo.out.1 (by decide)) (Nat.le_trans HSo.out.2.1 (by decide)) (Nat.le_trans HSo.out.2.2 (by decide)) H7.out.1.own.bookAt ⟨a7, c7, rfl, cells_of_owns H7.out.2.1.own⟩).mono ?_; rintro e w8 ⟨a2, b2, c2, d2, KD, rfl, hD, hbD⟩; obtain ⟨ao2, co2, al2, cl2, ac2, cc2, rfl, rfl, rfl, rfl⟩ := bookAt_shape hD.bookAt; have H8 : Hid (L4 w w8 p w2.heap.size ad n c V t (10 + 450 * k + 440) u k X sa sc B s K u7 ∧ EBox w8 wr.heap.size w4.heap.size F a7 c7 ∧ Fr (fun x => x = p) wr w8 ∧ OwnBook w8 Y.heap.size (bookV (doP B F).2 (⟨ao2, co2, al2, cl2, ac2, cc2⟩ : Sl)) (doP B F).2 KD) := ⟨HR.out.1.turn (H7.out.2.2.trans (Fr.of_below hbD)) (fun x e => Or.inl e) ((H7.out.1.cur.below hbD).mono (by omega)), H7.out.2.1.below hbD, H7.out.2.2.trans (Fr.of_below hbD), hD⟩; have zY8 : Y.heap.size ≤ w8.heap.size := hbD.size; clear p0 p1 p2 p3 z0 z1 z2 z3 z4 z5 hD hbD H7; obtain ⟨p0, p1, p2, p3⟩ := box_cells H8.out.1.box; obtain ⟨z0, z1, z2, z3, z4, z5⟩ := ev_cells H8.out.2.1.box; have zPe8 : w4.heap.size < w8.heap.size := H8.out.2.1.lt; have zP8 : w2.heap.size < w8.heap.size := H8.out.1.zP; have fP0 : w8.frozen? ⟨w2.heap.size, 0, none⟩ = false := frozen_of_box H8.out.1.box; have fP1 : w8.frozen? ⟨w2.heap.size, 1, none⟩ = false := frozen_of_box H8.out.1.box; have fP2 : w8.frozen? ⟨w2.heap.size, 2, none⟩ = false := frozen_of_box H8.out.1.box; have fP3 : w8.frozen? ⟨w2.heap.size, 3, none⟩ = false := frozen_of_box H8.out.1.box
    by_cases h1 : (doP B F).1 = 1
    ·
     have t1' : ((doP B F).1 == 1) = true := by rw [h1]; rfl
     have H1 : Hid ((doP B F).1 = 1) := h1; clear h1
     go_wp2_with (at_builtin; refine stand ?_)
     refine Stand.go ?_; have bA := below1 w8 (dnC (doP B F) ao2 co2 al2 cl2 ac2 cc2); have bB := below1 (w8.alloc (dnC (doP B F) ao2 co2 al2 cl2 ac2 cc2)) (evC F a7 c7); have bC : Below w8.heap.size w8 ((w8.alloc (dnC (doP B F) ao2 co2 al2 cl2 ac2 cc2)).alloc (evC F a7 c7)) := below2 _ _ _; have s1 : (w8.alloc (dnC (doP B F) ao2 co2 al2 cl2 ac2 cc2)).heap.size = w8.heap.size + 1 := alloc_size _ _; have s2 : ((w8.alloc (dnC (doP B F) ao2 co2 al2 cl2 ac2 cc2)).alloc (evC F a7 c7)).heap.size = w8.heap.size + 2 := (alloc_size _ _).trans (by rw [s1])
     have hV : Hid (Fr (fun x => x = p ∨ x = w2.heap.size) wr ((w8.alloc (dnC (doP B F) ao2 co2 al2 cl2 ac2 cc2)).alloc (evC F a7 c7)) ∧ CurTo ((w8.alloc (dnC (doP B F) ao2 co2 al2 cl2 ac2 cc2)).alloc (evC F a7 c7)) p ad n c V t (10 + 450 * k + 440) u7 ∧ ((w8.alloc (dnC (doP B F) ao2 co2 al2 cl2 ac2 cc2)).alloc (evC F a7 c7)).heap[w2.heap.size]? = some (.cells #[.int .i64 B.n, .slice s.ao B.orders.length s.co, .slice s.al B.locked.length s.cl, .slice s.ac B.occ.length s.cc] 37 (0, 0)) ∧ OwnBook ((w8.alloc (dnC (doP B F) ao2 co2 al2 cl2 ac2 cc2)).alloc (evC F a7 c7)) w.heap.size (bookV B s) B K ∧ ((w8.alloc (dnC (doP B F) ao2 co2 al2 cl2 ac2 cc2)).alloc (evC F a7 c7)).ownsRow wr.heap.size 3 1 (.slice a7 F.secs.length c7) F.secs.length (F.secs.map (Value.int .i64)) ∧ ((w8.alloc (dnC (doP B F) ao2 co2 al2 cl2 ac2 cc2)).alloc (evC F a7 c7)).heap[w8.heap.size + 1]? = some (evC F a7 c7)) :=
      ⟨(H8.out.2.2.1.trans (Fr.of_below bC)).mono (fun i e => Or.inl e), (H8.out.1.cur.below bC).mono (by omega), (bC.block _ zP8).trans H8.out.1.box, H8.out.1.own.below bC, owns_below H8.out.2.1.own bC, by rw [← s1]; exact Deep.blk_alloc_new _ _⟩
     obtain ⟨Q, hQ⟩ : ∃ Q, Q = ((w8.alloc (dnC (doP B F) ao2 co2 al2 cl2 ac2 cc2)).alloc (evC F a7 c7)) := ⟨_, rfl⟩; rw [← hQ] at hV s2 ⊢; clear hQ bA bB bC s1 p0 p1 p2 p3 z0 z1 z2 z3 z4 z5 fP0 fP1 fP2 fP3
     have n4 : ∀ j u', (cellsE F a7 c7)[j]? = some u' → Q.cell? ((⟨w8.heap.size + 1, 0, none⟩ : Addr).add j) = some u' := by
      intro j u' hu; rw [add0]; refine cell_of_box hV.out.2.2.2.2.2 ?_; rw [← Array.getElem?_toList]; exact hu
     have R4 : RowEvs Q (w2.heap.size + 1) u k X sa sc := HR.out.1.row.fr hV.out.1 (fun x hx e => by omega); have szV : wr.heap.size ≤ Q.heap.size := hV.out.1.size; refine wpList_append_own_at _ rfl _ _ 23 rfl (w2.heap.size + 1) 32 ie _ 6 80 Tryz.underlying23 hie ze0 ze1 ze2 rfl (by decide) u k (flatE X sa sc k) rfl R4.row ⟨w8.heap.size + 1, 0, none⟩ 1 1 (cellsE F a7 c7) rfl rfl n4 ?_ (by unfold maxLen; omega) (by omega) (by omega) ?_
     ·
      intro x hx; simp only [cellsE, List.mem_cons, List.not_mem_nil, or_false] at hx
      rcases hx with rfl | rfl | rfl | rfl | rfl | rfl <;> rfl
     intro vU wU hownU hgU _ hbU; have HU : Hid (L4 w wU p w2.heap.size ad n c V t (10 + 450 * (k + 1)) vU (k + 1) (put1 X k F) (put1 sa k a7) (put1 sc k c7) B s K u7) := HR.out.1.push HC.out hV.out.1 (hV.out.2.1.mono (by omega)) hV.out.2.2.1 (hV.out.2.2.2.1) (fun x hx => HR.out.1.dis x hx) (HR.out.1.dr) (owns_low hV.out.2.2.2.2.1 (by omega)) (fun g hg => (owns_lt hV.out.2.2.2.2.1 hg).1) HSo.out hownU hgU hbU; have HRU : Hid (wU.heap[w.heap.size]? = some (.cells #[.int .i64 0, .slice none 0 0, .slice none 0 0, .slice none 0 0] 37 (0, 0)) ∧ ∀ x, bookBlocks B K x → x ≠ w.heap.size) := ⟨(hgU.block _ (by omega) (fun e => by have := (owns_lt HR.out.1.row.row e.symm).1; omega)).trans ((hV.out.1.block _ (by omega) (by omega)).trans HR.out.2.1), fun x hx => HR.out.2.2 x hx⟩; obtain ⟨adU, cU, rfl, -⟩ := HU.out.row.done
     have HN9 : Hid (l4S n V u3 (beginBk (1 + (r : Int))) (k + 1) = (u7, B, put1 X k F)) := by
      have g4 := hT4.out; rw [hg4.out] at g4; have g6 := hF6.out; have g6' := hT6.out; rw [hg5.out] at g6 g6'; have g7 := hF7.out; have g7' := hT7.out; rw [hg7.out] at g7 g7'; have e9 := l4S_odd hL9.out g4 g6 g6' HZ6.out g7 g7'; rw [if_pos H1.out] at e9; exact e9
     clear hownU hgU hbU n4 R4 szV hV HR H8; go_wp2; go_roundw
     case rel => exact ⟨k + 1, q', _, _, _, _, _, _, _, _, by omega, by go_num, rfl, HU.out, HRU.out.1, HN9.out, HRU.out.2⟩
     case measure => simp [intOf]
    ·
     have t1' : ((doP B F).1 == 1) = false := by simpa using h1
     have H1 : Hid (¬ (doP B F).1 = 1) := h1; clear h1
     go_wp2_with (at_builtin; refine stand ?_)
     refine Stand.go ?_; have hCh : ((((w8.setCell ⟨w2.heap.size, 0, none⟩ (.int .i64 (doP B F).2.n)).setCell ⟨w2.heap.size, 1, none⟩ (.slice ao2 (doP B F).2.orders.length co2)).setCell ⟨w2.heap.size, 2, none⟩ (.slice al2 (doP B F).2.locked.length cl2)).setCell ⟨w2.heap.size, 3, none⟩ (.slice ac2 (doP B F).2.occ.length cc2)) = (putBook w8 w2.heap.size (doP B F).2 (⟨ao2, co2, al2, cl2, ac2, cc2⟩ : Sl)) := rfl; rw [hCh]; clear hCh; have pb := putBook_fr w8 w2.heap.size (doP B F).2 (⟨ao2, co2, al2, cl2, ac2, cc2⟩ : Sl); have s0 : (putBook w8 w2.heap.size (doP B F).2 (⟨ao2, co2, al2, cl2, ac2, cc2⟩ : Sl)).heap.size = w8.heap.size := putBook_size _ _ _ _; have bC : Below (putBook w8 w2.heap.size (doP B F).2 (⟨ao2, co2, al2, cl2, ac2, cc2⟩ : Sl)).heap.size (putBook w8 w2.heap.size (doP B F).2 (⟨ao2, co2, al2, cl2, ac2, cc2⟩ : Sl)) (((putBook w8 w2.heap.size (doP B F).2 (⟨ao2, co2, al2, cl2, ac2, cc2⟩ : Sl)).alloc (dnC (doP B F) ao2 co2 al2 cl2 ac2 cc2)).alloc (evC F a7 c7)) := below2 _ _ _; have s1 : ((putBook w8 w2.heap.size (doP B F).2 (⟨ao2, co2, al2, cl2, ac2, cc2⟩ : Sl)).alloc (dnC (doP B F) ao2 co2 al2 cl2 ac2 cc2)).heap.size = w8.heap.size + 1 := (alloc_size _ _).trans (by rw [s0]); have s2 : (((putBook w8 w2.heap.size (doP B F).2 (⟨ao2, co2, al2, cl2, ac2, cc2⟩ : Sl)).alloc (dnC (doP B F) ao2 co2 al2 cl2 ac2 cc2)).alloc (evC F a7 c7)).heap.size = w8.heap.size + 2 := (alloc_size _ _).trans (by rw [s1]); have fA : Fr (fun x => x = w2.heap.size) w8 (((putBook w8 w2.heap.size (doP B F).2 (⟨ao2, co2, al2, cl2, ac2, cc2⟩ : Sl)).alloc (dnC (doP B F) ao2 co2 al2 cl2 ac2 cc2)).alloc (evC F a7 c7)) := pb.trans (Fr.of_below bC)
     have hV : Hid (Fr (fun x => x = p ∨ x = w2.heap.size) wr (((putBook w8 w2.heap.size (doP B F).2 (⟨ao2, co2, al2, cl2, ac2, cc2⟩ : Sl)).alloc (dnC (doP B F) ao2 co2 al2 cl2 ac2 cc2)).alloc (evC F a7 c7)) ∧ CurTo (((putBook w8 w2.heap.size (doP B F).2 (⟨ao2, co2, al2, cl2, ac2, cc2⟩ : Sl)).alloc (dnC (doP B F) ao2 co2 al2 cl2 ac2 cc2)).alloc (evC F a7 c7)) p ad n c V t (10 + 450 * k + 440) u7 ∧ (((putBook w8 w2.heap.size (doP B F).2 (⟨ao2, co2, al2, cl2, ac2, cc2⟩ : Sl)).alloc (dnC (doP B F) ao2 co2 al2 cl2 ac2 cc2)).alloc (evC F a7 c7)).heap[w2.heap.size]? = some (.cells #[.int .i64 (doP B F).2.n, .slice ao2 (doP B F).2.orders.length co2, .slice al2 (doP B F).2.locked.length cl2, .slice ac2 (doP B F).2.occ.length cc2] 37 (0, 0)) ∧ OwnBook (((putBook w8 w2.heap.size (doP B F).2 (⟨ao2, co2, al2, cl2, ac2, cc2⟩ : Sl)).alloc (dnC (doP B F) ao2 co2 al2 cl2 ac2 cc2)).alloc (evC F a7 c7)) Y.heap.size (bookV (doP B F).2 (⟨ao2, co2, al2, cl2, ac2, cc2⟩ : Sl)) (doP B F).2 KD ∧ (((putBook w8 w2.heap.size (doP B F).2 (⟨ao2, co2, al2, cl2, ac2, cc2⟩ : Sl)).alloc (dnC (doP B F) ao2 co2 al2 cl2 ac2 cc2)).alloc (evC F a7 c7)).ownsRow wr.heap.size 3 1 (.slice a7 F.secs.length c7) F.secs.length (F.secs.map (Value.int .i64)) ∧ (((putBook w8 w2.heap.size (doP B F).2 (⟨ao2, co2, al2, cl2, ac2, cc2⟩ : Sl)).alloc (dnC (doP B F) ao2 co2 al2 cl2 ac2 cc2)).alloc (evC F a7 c7)).heap[w8.heap.size + 1]? = some (evC F a7 c7)) :=
      ⟨(H8.out.2.2.1.mono (fun i e => Or.inl e)).trans (fA.mono (fun i e => Or.inr e)), (H8.out.1.cur.fr fA (by omega) (fun h0 b o ha e => by have := HC.out.adlt h0 ha; omega)).mono (by omega), (bC.block _ (by rw [s0]; omega)).trans (putBook_box H8.out.1.box), H8.out.2.2.2.fr fA (fun x hx e => by have := H8.out.2.2.2.blocks_low hx; omega), owns_of_block H8.out.2.1.own (fun g hg => fA.block g (owns_lt H8.out.2.1.own hg).2 (by have := (owns_lt H8.out.2.1.own hg).1; omega)), by rw [← s1]; exact Deep.blk_alloc_new _ _⟩
     obtain ⟨Q, hQ⟩ : ∃ Q, Q = (((putBook w8 w2.heap.size (doP B F).2 (⟨ao2, co2, al2, cl2, ac2, cc2⟩ : Sl)).alloc (dnC (doP B F) ao2 co2 al2 cl2 ac2 cc2)).alloc (evC F a7 c7)) := ⟨_, rfl⟩; rw [← hQ] at hV s2 ⊢; clear hQ bC fA pb s0 s1 p0 p1 p2 p3 z0 z1 z2 z3 z4 z5 fP0 fP1 fP2 fP3
     have n4 : ∀ j u', (cellsE F a7 c7)[j]? = some u' → Q.cell? ((⟨w8.heap.size + 1, 0, none⟩ : Addr).add j) = some u' := by
      intro j u' hu; rw [add0]; refine cell_of_box hV.out.2.2.2.2.2 ?_; rw [← Array.getElem?_toList]; exact hu
     have R4 : RowEvs Q (w2.heap.size + 1) u k X sa sc := HR.out.1.row.fr hV.out.1 (fun x hx e => by omega); have szV : wr.heap.size ≤ Q.heap.size := hV.out.1.size; refine wpList_append_own_at _ rfl _ _ 23 rfl (w2.heap.size + 1) 32 ie _ 6 80 Tryz.underlying23 hie ze0 ze1 ze2 rfl (by decide) u k (flatE X sa sc k) rfl R4.row ⟨w8.heap.size + 1, 0, none⟩ 1 1 (cellsE F a7 c7) rfl rfl n4 ?_ (by unfold maxLen; omega) (by omega) (by omega) ?_
     ·
      intro x hx; simp only [cellsE, List.mem_cons, List.not_mem_nil, or_false] at hx
      rcases hx with rfl | rfl | rfl | rfl | rfl | rfl <;> rfl
     intro vU wU hownU hgU _ hbU; have HU : Hid (L4 w wU p w2.heap.size ad n c V t (10 + 450 * (k + 1)) vU (k + 1) (put1 X k F) (put1 sa k a7) (put1 sc k c7) (doP B F).2 (⟨ao2, co2, al2, cl2, ac2, cc2⟩ : Sl) KD u7) := HR.out.1.push HC.out hV.out.1 (hV.out.2.1.mono (by omega)) hV.out.2.2.1 ((hV.out.2.2.2.1.mono (by omega))) (fun x hx => ⟨fun e => by have := hV.out.2.2.2.1.blocks_low hx; have := (owns_lt HR.out.1.row.row e).2; omega, by have := hV.out.2.2.2.1.blocks_low hx; omega⟩) ((HR.out.1.dr.step H1.out)) (owns_low hV.out.2.2.2.2.1 (by omega)) (fun g hg => (owns_lt hV.out.2.2.2.2.1 hg).1) HSo.out hownU hgU hbU; have HRU : Hid (wU.heap[w.heap.size]? = some (.cells #[.int .i64 0, .slice none 0 0, .slice none 0 0, .slice none 0 0] 37 (0, 0)) ∧ ∀ x, bookBlocks (doP B F).2 KD x → x ≠ w.heap.size) := ⟨(hgU.block _ (by omega) (fun e => by have := (owns_lt HR.out.1.row.row e.symm).1; omega)).trans ((hV.out.1.block _ (by omega) (by omega)).trans HR.out.2.1), fun x hx => by have := hV.out.2.2.2.1.blocks_low hx; omega⟩; obtain ⟨adU, cU, rfl, -⟩ := HU.out.row.done
     have HN9 : Hid (l4S n V u3 (beginBk (1 + (r : Int))) (k + 1) = (u7, (doP B F).2, put1 X k F)) := by
      have g4 := hT4.out; rw [hg4.out] at g4; have g6 := hF6.out; have g6' := hT6.out; rw [hg5.out] at g6 g6'; have g7 := hF7.out; have g7' := hT7.out; rw [hg7.out] at g7 g7'; have e9 := l4S_odd hL9.out g4 g6 g6' HZ6.out g7 g7'; rw [if_neg H1.out] at e9; exact e9
     clear hownU hgU hbU n4 R4 szV hV HR H8; go_wp2; go_roundw
     case rel => exact ⟨k + 1, q', _, _, _, _, _, _, _, _, by omega, by go_num, rfl, HU.out, HRU.out.1, HN9.out, HRU.out.2⟩
     case measure => simp [intOf]
   ·
    have t6 : ((r6 : Int) == 0) = false := by simpa using h6
    have HZ6 : Hid (¬ r6 = 0) := by show ¬ r6 = 0; omega
    clear h6; obtain ⟨p0, p1, p2, p3⟩ := box_cells H6.out.1.box
    go_upto_region 10 with (fail)
    clear p0 p1 p2 p3; obtain ⟨p0, p1, p2, p3⟩ := box_cells H6.out.1.box; obtain ⟨z0, z1, z2, z3, z4, z5⟩ := ev_cells H6.out.2.1.box; have zPe : w4.heap.size < w6.heap.size := H6.out.2.1.lt; have zPy : w2.heap.size < w6.heap.size := H6.out.1.zP
    go_wp2_with fail
    refine (specDo_any _ _ B E _ HR.out.1.dr.small ⟨by have := HR.out.1.dr.2.2.1; omega, by have := HR.out.1.dr.2.2.2.1; omega⟩ (Nat.le_trans HSm.out.1 (by decide)) (Nat.le_trans HSm.out.2.1 (by decide)) (Nat.le_trans HSm.out.2.2 (by decide)) H6.out.1.own.bookAt ⟨a4, c4, rfl, cells_of_owns H6.out.2.1.own⟩).mono ?_; rintro e w8 ⟨a2, b2, c2, d2, KD, rfl, hD, hbD⟩; obtain ⟨ao2, co2, al2, cl2, ac2, cc2, rfl, rfl, rfl, rfl⟩ := bookAt_shape hD.bookAt; have H8 : Hid (L4 w w8 p w2.heap.size ad n c V t (10 + 450 * k + 440) u k X sa sc B s K u6 ∧ EBox w8 wr.heap.size w4.heap.size E a4 c4 ∧ Fr (fun x => x = p) wr w8 ∧ OwnBook w8 w6.heap.size (bookV (doP B E).2 (⟨ao2, co2, al2, cl2, ac2, cc2⟩ : Sl)) (doP B E).2 KD) := ⟨HR.out.1.turn (H6.out.2.2.trans (Fr.of_below hbD)) (fun x e => Or.inl e) ((H6.out.1.cur.below hbD).mono (by omega)), H6.out.2.1.below hbD, H6.out.2.2.trans (Fr.of_below hbD), hD⟩; have zY8 : w6.heap.size ≤ w8.heap.size := hbD.size; clear p0 p1 p2 p3 z0 z1 z2 z3 z4 z5 hD hbD H6; obtain ⟨p0, p1, p2, p3⟩ := box_cells H8.out.1.box; obtain ⟨z0, z1, z2, z3, z4, z5⟩ := ev_cells H8.out.2.1.box; have zPe8 : w4.heap.size < w8.heap.size := H8.out.2.1.lt; have zP8 : w2.heap.size < w8.heap.size := H8.out.1.zP; have fP0 : w8.frozen? ⟨w2.heap.size, 0, none⟩ = false := frozen_of_box H8.out.1.box; have fP1 : w8.frozen? ⟨w2.heap.size, 1, none⟩ = false := frozen_of_box H8.out.1.box; have fP2 : w8.frozen? ⟨w2.heap.size, 2, none⟩ = false := frozen_of_box H8.out.1.box; have fP3 : w8.frozen? ⟨w2.heap.size, 3, none⟩ = false := frozen_of_box H8.out.1.box
    by_cases h1 : (doP B E).1 = 1
    ·
     have t1' : ((doP B E).1 == 1) = true := by rw [h1]; rfl
     have H1 : Hid ((doP B E).1 = 1) := h1; clear h1
     go_wp2_with (at_builtin; refine stand ?_)
     refine Stand.go ?_; have bA := below1 w8 (dnC (doP B E) ao2 co2 al2 cl2 ac2 cc2); have bB := below1 (w8.alloc (dnC (doP B E) ao2 co2 al2 cl2 ac2 cc2)) (evC E a4 c4); have bC : Below w8.heap.size w8 ((w8.alloc (dnC (doP B E) ao2 co2 al2 cl2 ac2 cc2)).alloc (evC E a4 c4)) := below2 _ _ _; have s1 : (w8.alloc (dnC (doP B E) ao2 co2 al2 cl2 ac2 cc2)).heap.size = w8.heap.size + 1 := alloc_size _ _; have s2 : ((w8.alloc (dnC (doP B E) ao2 co2 al2 cl2 ac2 cc2)).alloc (evC E a4 c4)).heap.size = w8.heap.size + 2 := (alloc_size _ _).trans (by rw [s1])
     have hV : Hid (Fr (fun x => x = p ∨ x = w2.heap.size) wr ((w8.alloc (dnC (doP B E) ao2 co2 al2 cl2 ac2 cc2)).alloc (evC E a4 c4)) ∧ CurTo ((w8.alloc (dnC (doP B E) ao2 co2 al2 cl2 ac2 cc2)).alloc (evC E a4 c4)) p ad n c V t (10 + 450 * k + 440) u6 ∧ ((w8.alloc (dnC (doP B E) ao2 co2 al2 cl2 ac2 cc2)).alloc (evC E a4 c4)).heap[w2.heap.size]? = some (.cells #[.int .i64 B.n, .slice s.ao B.orders.length s.co, .slice s.al B.locked.length s.cl, .slice s.ac B.occ.length s.cc] 37 (0, 0)) ∧ OwnBook ((w8.alloc (dnC (doP B E) ao2 co2 al2 cl2 ac2 cc2)).alloc (evC E a4 c4)) w.heap.size (bookV B s) B K ∧ ((w8.alloc (dnC (doP B E) ao2 co2 al2 cl2 ac2 cc2)).alloc (evC E a4 c4)).ownsRow wr.heap.size 3 1 (.slice a4 E.secs.length c4) E.secs.length (E.secs.map (Value.int .i64)) ∧ ((w8.alloc (dnC (doP B E) ao2 co2 al2 cl2 ac2 cc2)).alloc (evC E a4 c4)).heap[w8.heap.size + 1]? = some (evC E a4 c4)) :=
      ⟨(H8.out.2.2.1.trans (Fr.of_below bC)).mono (fun i e => Or.inl e), (H8.out.1.cur.below bC).mono (by omega), (bC.block _ zP8).trans H8.out.1.box, H8.out.1.own.below bC, owns_below H8.out.2.1.own bC, by rw [← s1]; exact Deep.blk_alloc_new _ _⟩
     obtain ⟨Q, hQ⟩ : ∃ Q, Q = ((w8.alloc (dnC (doP B E) ao2 co2 al2 cl2 ac2 cc2)).alloc (evC E a4 c4)) := ⟨_, rfl⟩; rw [← hQ] at hV s2 ⊢; clear hQ bA bB bC s1 p0 p1 p2 p3 z0 z1 z2 z3 z4 z5 fP0 fP1 fP2 fP3
     have n4 : ∀ j u', (cellsE E a4 c4)[j]? = some u' → Q.cell? ((⟨w8.heap.size + 1, 0, none⟩ : Addr).add j) = some u' := by
      intro j u' hu; rw [add0]; refine cell_of_box hV.out.2.2.2.2.2 ?_; rw [← Array.getElem?_toList]; exact hu
     have R4 : RowEvs Q (w2.heap.size + 1) u k X sa sc := HR.out.1.row.fr hV.out.1 (fun x hx e => by omega); have szV : wr.heap.size ≤ Q.heap.size := hV.out.1.size; refine wpList_append_own_at _ rfl _ _ 23 rfl (w2.heap.size + 1) 32 ie _ 6 80 Tryz.underlying23 hie ze0 ze1 ze2 rfl (by decide) u k (flatE X sa sc k) rfl R4.row ⟨w8.heap.size + 1, 0, none⟩ 1 1 (cellsE E a4 c4) rfl rfl n4 ?_ (by unfold maxLen; omega) (by omega) (by omega) ?_
     ·
      intro x hx; simp only [cellsE, List.mem_cons, List.not_mem_nil, or_false] at hx
      rcases hx with rfl | rfl | rfl | rfl | rfl | rfl <;> rfl
     intro vU wU hownU hgU _ hbU; have HU : Hid (L4 w wU p w2.heap.size ad n c V t (10 + 450 * (k + 1)) vU (k + 1) (put1 X k E) (put1 sa k a4) (put1 sc k c4) B s K u6) := HR.out.1.push HC.out hV.out.1 (hV.out.2.1.mono (by omega)) hV.out.2.2.1 (hV.out.2.2.2.1) (fun x hx => HR.out.1.dis x hx) (HR.out.1.dr) (owns_low hV.out.2.2.2.2.1 (by omega)) (fun g hg => (owns_lt hV.out.2.2.2.2.1 hg).1) HSm.out hownU hgU hbU; have HRU : Hid (wU.heap[w.heap.size]? = some (.cells #[.int .i64 0, .slice none 0 0, .slice none 0 0, .slice none 0 0] 37 (0, 0)) ∧ ∀ x, bookBlocks B K x → x ≠ w.heap.size) := ⟨(hgU.block _ (by omega) (fun e => by have := (owns_lt HR.out.1.row.row e.symm).1; omega)).trans ((hV.out.1.block _ (by omega) (by omega)).trans HR.out.2.1), fun x hx => HR.out.2.2 x hx⟩; obtain ⟨adU, cU, rfl, -⟩ := HU.out.row.done
     have HN9 : Hid (l4S n V u3 (beginBk (1 + (r : Int))) (k + 1) = (u6, B, put1 X k E)) := by
      have g4 := hT4.out; rw [hg4.out] at g4; have g6 := hF6.out; have g6' := hT6.out; rw [hg5.out] at g6 g6'; have g3 := hF4.out; rw [hg4.out] at g3; have e9 := l4S_event hL9.out g3 g4 g6 g6' HZ6.out; rw [if_pos H1.out] at e9; exact e9
     clear hownU hgU hbU n4 R4 szV hV HR H8; go_wp2; go_roundw
     case rel => exact ⟨k + 1, q', _, _, _, _, _, _, _, _, by omega, by go_num, rfl, HU.out, HRU.out.1, HN9.out, HRU.out.2⟩
     case measure => simp [intOf]
    ·
     have t1' : ((doP B E).1 == 1) = false := by simpa using h1
     have H1 : Hid (¬ (doP B E).1 = 1) := h1; clear h1
     go_wp2_with (at_builtin; refine stand ?_)
     refine Stand.go ?_; have hCh : ((((w8.setCell ⟨w2.heap.size, 0, none⟩ (.int .i64 (doP B E).2.n)).setCell ⟨w2.heap.size, 1, none⟩ (.slice ao2 (doP B E).2.orders.length co2)).setCell ⟨w2.heap.size, 2, none⟩ (.slice al2 (doP B E).2.locked.length cl2)).setCell ⟨w2.heap.size, 3, none⟩ (.slice ac2 (doP B E).2.occ.length cc2)) = (putBook w8 w2.heap.size (doP B E).2 (⟨ao2, co2, al2, cl2, ac2, cc2⟩ : Sl)) := rfl; rw [hCh]; clear hCh; have pb := putBook_fr w8 w2.heap.size (doP B E).2 (⟨ao2, co2, al2, cl2, ac2, cc2⟩ : Sl); have s0 : (putBook w8 w2.heap.size (doP B E).2 (⟨ao2, co2, al2, cl2, ac2, cc2⟩ : Sl)).heap.size = w8.heap.size := putBook_size _ _ _ _; have bC : Below (putBook w8 w2.heap.size (doP B E).2 (⟨ao2, co2, al2, cl2, ac2, cc2⟩ : Sl)).heap.size (putBook w8 w2.heap.size (doP B E).2 (⟨ao2, co2, al2, cl2, ac2, cc2⟩ : Sl)) (((putBook w8 w2.heap.size (doP B E).2 (⟨ao2, co2, al2, cl2, ac2, cc2⟩ : Sl)).alloc (dnC (doP B E) ao2 co2 al2 cl2 ac2 cc2)).alloc (evC E a4 c4)) := below2 _ _ _; have s1 : ((putBook w8 w2.heap.size (doP B E).2 (⟨ao2, co2, al2, cl2, ac2, cc2⟩ : Sl)).alloc (dnC (doP B E) ao2 co2 al2 cl2 ac2 cc2)).heap.size = w8.heap.size + 1 := (alloc_size _ _).trans (by rw [s0]); have s2 : (((putBook w8 w2.heap.size (doP B E).2 (⟨ao2, co2, al2, cl2, ac2, cc2⟩ : Sl)).alloc (dnC (doP B E) ao2 co2 al2 cl2 ac2 cc2)).alloc (evC E a4 c4)).heap.size = w8.heap.size + 2 := (alloc_size _ _).trans (by rw [s1]); have fA : Fr (fun x => x = w2.heap.size) w8 (((putBook w8 w2.heap.size (doP B E).2 (⟨ao2, co2, al2, cl2, ac2, cc2⟩ : Sl)).alloc (dnC (doP B E) ao2 co2 al2 cl2 ac2 cc2)).alloc (evC E a4 c4)) := pb.trans (Fr.of_below bC)
     have hV : Hid (Fr (fun x => x = p ∨ x = w2.heap.size) wr (((putBook w8 w2.heap.size (doP B E).2 (⟨ao2, co2, al2, cl2, ac2, cc2⟩ : Sl)).alloc (dnC (doP B E) ao2 co2 al2 cl2 ac2 cc2)).alloc (evC E a4 c4)) ∧ CurTo (((putBook w8 w2.heap.size (doP B E).2 (⟨ao2, co2, al2, cl2, ac2, cc2⟩ : Sl)).alloc (dnC (doP B E) ao2 co2 al2 cl2 ac2 cc2)).alloc (evC E a4 c4)) p ad n c V t (10 + 450 * k + 440) u6 ∧ (((putBook w8 w2.heap.size (doP B E).2 (⟨ao2, co2, al2, cl2, ac2, cc2⟩ : Sl)).alloc (dnC (doP B E) ao2 co2 al2 cl2 ac2 cc2)).alloc (evC E a4 c4)).heap[w2.heap.size]? = some (.cells #[.int .i64 (doP B E).2.n, .slice ao2 (doP B E).2.orders.length co2, .slice al2 (doP B E).2.locked.length cl2, .slice ac2 (doP B E).2.occ.length cc2] 37 (0, 0)) ∧ OwnBook (((putBook w8 w2.heap.size (doP B E).2 (⟨ao2, co2, al2, cl2, ac2, cc2⟩ : Sl)).alloc (dnC (doP B E) ao2 co2 al2 cl2 ac2 cc2)).alloc (evC E a4 c4)) w6.heap.size (bookV (doP B E).2 (⟨ao2, co2, al2, cl2, ac2, cc2⟩ : Sl)) (doP B E).2 KD ∧ (((putBook w8 w2.heap.size (doP B E).2 (⟨ao2, co2, al2, cl2, ac2, cc2⟩ : Sl)).alloc (dnC (doP B E) ao2 co2 al2 cl2 ac2 cc2)).alloc (evC E a4 c4)).ownsRow wr.heap.size 3 1 (.slice a4 E.secs.length c4) E.secs.length (E.secs.map (Value.int .i64)) ∧ (((putBook w8 w2.heap.size (doP B E).2 (⟨ao2, co2, al2, cl2, ac2, cc2⟩ : Sl)).alloc (dnC (doP B E) ao2 co2 al2 cl2 ac2 cc2)).alloc (evC E a4 c4)).heap[w8.heap.size + 1]? = some (evC E a4 c4)) :=
      ⟨(H8.out.2.2.1.mono (fun i e => Or.inl e)).trans (fA.mono (fun i e => Or.inr e)), (H8.out.1.cur.fr fA (by omega) (fun h0 b o ha e => by have := HC.out.adlt h0 ha; omega)).mono (by omega), (bC.block _ (by rw [s0]; omega)).trans (putBook_box H8.out.1.box), H8.out.2.2.2.fr fA (fun x hx e => by have := H8.out.2.2.2.blocks_low hx; omega), owns_of_block H8.out.2.1.own (fun g hg => fA.block g (owns_lt H8.out.2.1.own hg).2 (by have := (owns_lt H8.out.2.1.own hg).1; omega)), by rw [← s1]; exact Deep.blk_alloc_new _ _⟩
     obtain ⟨Q, hQ⟩ : ∃ Q, Q = (((putBook w8 w2.heap.size (doP B E).2 (⟨ao2, co2, al2, cl2, ac2, cc2⟩ : Sl)).alloc (dnC (doP B E) ao2 co2 al2 cl2 ac2 cc2)).alloc (evC E a4 c4)) := ⟨_, rfl⟩; rw [← hQ] at hV s2 ⊢; clear hQ bC fA pb s0 s1 p0 p1 p2 p3 z0 z1 z2 z3 z4 z5 fP0 fP1 fP2 fP3
     have n4 : ∀ j u', (cellsE E a4 c4)[j]? = some u' → Q.cell? ((⟨w8.heap.size + 1, 0, none⟩ : Addr).add j) = some u' := by
      intro j u' hu; rw [add0]; refine cell_of_box hV.out.2.2.2.2.2 ?_; rw [← Array.getElem?_toList]; exact hu
     have R4 : RowEvs Q (w2.heap.size + 1) u k X sa sc := HR.out.1.row.fr hV.out.1 (fun x hx e => by omega); have szV : wr.heap.size ≤ Q.heap.size := hV.out.1.size; refine wpList_append_own_at _ rfl _ _ 23 rfl (w2.heap.size + 1) 32 ie _ 6 80 Tryz.underlying23 hie ze0 ze1 ze2 rfl (by decide) u k (flatE X sa sc k) rfl R4.row ⟨w8.heap.size + 1, 0, none⟩ 1 1 (cellsE E a4 c4) rfl rfl n4 ?_ (by unfold maxLen; omega) (by omega) (by omega) ?_
     ·
      intro x hx; simp only [cellsE, List.mem_cons, List.not_mem_nil, or_false] at hx
      rcases hx with rfl | rfl | rfl | rfl | rfl | rfl <;> rfl
     intro vU wU hownU hgU _ hbU; have HU : Hid (L4 w wU p w2.heap.size ad n c V t (10 + 450 * (k + 1)) vU (k + 1) (put1 X k E) (put1 sa k a4) (put1 sc k c4) (doP B E).2 (⟨ao2, co2, al2, cl2, ac2, cc2⟩ : Sl) KD u6) := HR.out.1.push HC.out hV.out.1 (hV.out.2.1.mono (by omega)) hV.out.2.2.1 ((hV.out.2.2.2.1.mono (by omega))) (fun x hx => ⟨fun e => by have := hV.out.2.2.2.1.blocks_low hx; have := (owns_lt HR.out.1.row.row e).2; omega, by have := hV.out.2.2.2.1.blocks_low hx; omega⟩) ((HR.out.1.dr.step H1.out)) (owns_low hV.out.2.2.2.2.1 (by omega)) (fun g hg => (owns_lt hV.out.2.2.2.2.1 hg).1) HSm.out hownU hgU hbU; have HRU : Hid (wU.heap[w.heap.size]? = some (.cells #[.int .i64 0, .slice none 0 0, .slice none 0 0, .slice none 0 0] 37 (0, 0)) ∧ ∀ x, bookBlocks (doP B E).2 KD x → x ≠ w.heap.size) := ⟨(hgU.block _ (by omega) (fun e => by have := (owns_lt HR.out.1.row.row e.symm).1; omega)).trans ((hV.out.1.block _ (by omega) (by omega)).trans HR.out.2.1), fun x hx => by have := hV.out.2.2.2.1.blocks_low hx; omega⟩; obtain ⟨adU, cU, rfl, -⟩ := HU.out.row.done
     have HN9 : Hid (l4S n V u3 (beginBk (1 + (r : Int))) (k + 1) = (u6, (doP B E).2, put1 X k E)) := by
      have g4 := hT4.out; rw [hg4.out] at g4; have g6 := hF6.out; have g6' := hT6.out; rw [hg5.out] at g6 g6'; have g3 := hF4.out; rw [hg4.out] at g3; have e9 := l4S_event hL9.out g3 g4 g6 g6' HZ6.out; rw [if_neg H1.out] at e9; exact e9
     clear hownU hgU hbU n4 R4 szV hV HR H8; go_wp2; go_roundw
     case rel => exact ⟨k + 1, q', _, _, _, _, _, _, _, _, by omega, by go_num, rfl, HU.out, HRU.out.1, HN9.out, HRU.out.2⟩
     case measure => simp [intOf]
  ·
   obtain rfl : q = 0 := by omega
   obtain ⟨p0, p1, p2, p3⟩ := box_cells hi.box; obtain ⟨y0, y1, y2, y3⟩ := box_cells hR; have fR : ∀ i, wr.frozen? ⟨w.heap.size, i, none⟩ = false := fun i => frozen_of_box hR; have fR0 := fR 0; have fR1 := fR 1; have fR2 := fR 2; have fR3 := fR 3; clear fR; have zw2 : w2.heap.size < wr.heap.size := hi.zP; have zw : w.heap.size < wr.heap.size := by omega
   obtain ⟨adU, cU, hu, -⟩ := hi.row.done; subst hu; have HR : Hid (L4 w wr p w2.heap.size ad n c V t (10 + 450 * k) (.slice adU k cU) k X sa sc B s K T ∧ wr.heap[w.heap.size]? = some (.cells #[.int .i64 0, .slice none 0 0, .slice none 0 0, .slice none 0 0] 37 (0, 0)) ∧ ∀ x, bookBlocks B K x → x ≠ w.heap.size) := ⟨hi, hR, hnR⟩; clear hi hR hnR; go_wp2; go_region; go_wp2; refine bodyPost_ret (v := .tuple #[.int .i64 (1 + (r : Int)), .slice adU k cU, .agg #[.int .i64 B.n, .slice s.ao B.orders.length s.co, .slice s.al B.locked.length s.cl, .slice s.ac B.occ.length s.cc]]) (by simp [results, Tryz.results20, go_sem, y0, y1, y2, y3]) rfl ?_
   have HE9 : Hid ((1 + (r : Int)) = 1 + (pickF n V t 9 : Int) ∧ k = pickF n V (pickT t 9) (most : Int) ∧ X = (l4S n V (pickT (pickT t 9) (most : Int)) (beginBk (1 + (r : Int))) k).2.2) := by
    have g1 := hT1.out; have g3 := hF3.out; have g3' := hT3.out; rw [hg3.out, g1] at g3 g3'; refine ⟨by rw [hF1.out], (by omega : k = q0).trans g3, ?_⟩; rw [← g3', hL9.out]
   have fw : Fr (fun x => x = w.heap.size) wr (putBook wr w.heap.size B s).drew := (putBook_fr wr w.heap.size B s).drew'; exact ⟨1 + (r : Int), _, _, k, X, sa, sc, B, K, rfl, by omega, by omega, by omega, (HR.out.1.row.fr fw (fun x hx e => by omega)).low (by omega), HR.out.1.sm, HR.out.1.own.fr fw (fun x hx e => HR.out.2.2 x hx e), HR.out.1.dr, ⟨_, (HR.out.1.cur.fr fw (by omega) (fun h0 b o ha e => by have := HC.out.adlt h0 ha; omega)).mono (by omega)⟩, ((HR.out.1.fr.mono (T := fun x => x = p ∨ x = w.heap.size) (fun i e => Or.inl e)).trans (fw.mono (fun i e => Or.inr e))).cut (fun i hi e => by omega), HE9.out⟩
end Go.Proofs.YtdlaekjofgbjcaaGreatDoor
/-
 What spec.Drawn answers. Mine, by template (wip/gen.py).
-/
namespace Go.Proofs.YtdlaekjofgbjcaaGreatDoor
open Go.RowKit
def drM (n : Nat) (V : Nat → UInt8) : Int := 1 + (pickF n V 0 9 : Int)
def drN (n : Nat) (V : Nat → UInt8) : Nat := pickF n V (pickT 0 9) 60
noncomputable def drX (n : Nat) (V : Nat → UInt8) : Nat → Ev := (l4S n V (pickT (pickT 0 9) 60) (beginBk (drM n V)) (drN n V)).2.2
def RetDr (e : Ending) (w w' : World) (n : Nat) (V : Nat → UInt8) : Prop :=
 ∃ (ad : Option Addr) (c : Nat), e = .returned (.tuple #[.int .i64 (drM n V), .slice ad (drN n V) c]) ∧ 1 ≤ drM n V ∧ drM n V ≤ 9 ∧ drN n V ≤ 60 ∧ EventsAt w' ad (drN n V) (drX n V) ∧ (∀ i, i < drN n V → SmallO (drX n V i)) ∧ Below w.heap.size w w'
theorem drawn_cur {w : World} {ad : Option Addr} {n c : Nat} {V : Nat → UInt8} (G : BytesAt w ad n V) : Cur (w.alloc (.cells #[.slice ad n c, .int .i64 0, .int .u64 0] 54)) w.heap.size ad n c V 0 := by
 refine ⟨Deep.blk_alloc_new _ _, ?_⟩
 by_cases h0 : n = 0
 ·
  subst h0; exact ⟨w.heap.size + 1, 0, fun h => absurd h (by omega), by omega, fun i hi => absurd hi (by omega)⟩
 obtain ⟨b, o, h1, h2⟩ := G; have hb := World.block_lt_of_cell? _ _ (h2 0 (by omega)); exact ⟨b, o, h1, by have : b < w.heap.size := hb; omega, fun i hi => ((below1 w _).cell (p := ⟨b, o + i, none⟩) hb).trans (h2 i hi)⟩
set_option maxHeartbeats 2000000 in
theorem drawn_any (ad : Option Addr) (n c : Nat) (V : Nat → UInt8) (w : World) (hn : n ≤ 1048576) (G : BytesAt w ad n V) :
  Calls Tryz.prog 6 #[.slice ad n c] w fun e w' => RetDr e w w' n V := by
 have B1 := below1 w (.cells #[.slice ad n c, .int .i64 0, .int .u64 0] 54); have HC : Hid (Cur (w.alloc (.cells #[.slice ad n c, .int .i64 0, .int .u64 0] 54)) w.heap.size ad n c V 0) := drawn_cur G; clear G
 go_enter Tryz.func6, Tryz.ntmps6
 go_wp2_with fail
 refine (show Calls Tryz.prog 20 #[.pointer (some ⟨w.heap.size, 0, none⟩), .int .i64 60] (w.alloc (.cells #[.slice ad n c, .int .i64 0, .int .u64 0] 54)) _ from l4run_any w.heap.size ad n c V 0 60 _ (by omega) hn (by omega) HC.out).mono ?_; rintro e w1 ⟨m, u, v, k, X, sa, sc, B, K, rfl, hm1, hm9, hk, hrow, hsm, hown, hdr, hcur, hfr, hz9⟩; obtain ⟨z1, z2, z3⟩ := hz9.out; have e1 : m = drM n V := z1; subst e1; have e2 : k = drN n V := z2; subst e2; have e3 : X = drX n V := z3; subst e3; obtain ⟨adU, cU, rfl, hev⟩ := hrow.done; obtain ⟨ao, co, al, cl, ac, cc, rfl, -⟩ := hown.shape; have HE : Hid (EventsAt w1 adU (drN n V) (drX n V) ∧ (∀ i, i < drN n V → SmallO (drX n V i)) ∧ Below w.heap.size w w1) := ⟨hev, hsm, B1.trans (hfr.below (by simp) (fun x e => by omega))⟩; clear hrow hown hdr hcur hfr hev hsm B1 z1 z2 z3 hz9; go_wp2; refine bodyPost_ret (v := .tuple #[.int .i64 (drM n V), .slice adU (drN n V) cU]) (by simp [results, Tryz.results6, go_sem]) rfl ?_; exact ⟨adU, cU, rfl, hm1, hm9, hk, HE.out.1.below (below1 _ _), HE.out.2.1, HE.out.2.2.alloc HE.out.2.2.size _⟩
end Go.Proofs.YtdlaekjofgbjcaaGreatDoor
