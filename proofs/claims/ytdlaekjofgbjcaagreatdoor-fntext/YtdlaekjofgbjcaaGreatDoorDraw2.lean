/-
  An event drawn, now and then an odd one: (*spec.l4Cur).odd. Mine, by program (wip/draw2.py), by template (wip/gen.py).
-/
import Derived.Test.YtdlaekjofgbjcaaGreatDoorBaseZ
import Derived.Test.YtdlaekjofgbjcaaGreatDoorDraw1
import Derived.Test.YtdlaekjofgbjcaaGreatDoorRowZ
namespace Go.Proofs.YtdlaekjofgbjcaaGreatDoor
open Go.RowKit
def SmallO (E : Ev) : Prop := E.holder.size ≤ 21 ∧ E.text.size ≤ 400 ∧ E.secs.length ≤ 21
def RetO2 (e : Ending) (w' : World) (lo : Nat) : Prop := ∃ v E, e = .returned v ∧ EvO w' lo v E ∧ SmallO E
theorem SmallE.odd {E : Ev} (h : SmallE E) : SmallO E := ⟨Nat.le_trans h.1 (by decide), h.2.1, Nat.le_trans h.2.2 (by decide)⟩
theorem Dr.turn {w W W' : World} {p lo : Nat} {ad : Option Addr} {n c : Nat} {V : Nat → UInt8} {t d : Nat} {v : Value} {B : Bk} {K : Blk} {o1 o2 : Obj} (h : Dr w ((w.alloc o1).alloc o2) W p lo ad n c V t d v B K) (h0 : Cur w p ad n c V t) (hO : OwnBook w lo v B K) {S : Nat → Prop} (hf : Fr S W W') (hS : ∀ x, S x → w.heap.size + 2 ≤ x) : Dr w ((w.alloc o1).alloc o2) W' p lo ad n c V t d v B K := by
  obtain ⟨t', h1, h2⟩ := h.cur
  have hp := h0.lt
  have s2 : ((w.alloc o1).alloc o2).heap.size = w.heap.size + 2 := by simp
  refine ⟨⟨t', h1, h2.fr hf (fun e => by have := hS _ e; omega) (fun hn b o ha e => by have := h0.adlt hn ha; have := hS _ e; omega)⟩, h.own.fr hf (fun x hx e => by have := hO.blocks_lt hx; have := hS _ e; omega), ?_⟩
  exact ((h.fr.mono (T := fun x => x = p ∨ S x) (fun i e => Or.inl e)).trans (hf.mono (fun i e => Or.inr e))).cut (fun i hi e => by
    rcases e with e | e
    · exact e
    · have := hS _ e; omega)
structure EBox (W : World) (base P : Nat) (E : Ev) (sa : Option Addr) (sc : Nat) : Prop where
  box : W.heap[P]? = some (.cells #[.int .i64 E.op, .int .i64 E.of_, .string E.holder, .int .i64 E.kind, .slice sa E.secs.length sc, .string E.text] 32 (0, 0))
  own : W.ownsRow base 3 1 (.slice sa E.secs.length sc) E.secs.length (E.secs.map (Value.int .i64))
  ne : ∀ g, (Value.slice sa E.secs.length sc).ownBlock = some g → g ≠ P
theorem EBox.lt {W : World} {base P : Nat} {E : Ev} {sa : Option Addr} {sc : Nat} (h : EBox W base P E sa sc) : P < W.heap.size := (Array.getElem?_eq_some_iff.1 h.box).1
theorem EBox.facts {W : World} {base P : Nat} {E : Ev} {sa : Option Addr} {sc : Nat} (h : EBox W base P E sa sc) : P < W.heap.size ∧ (W.cell? ⟨P, 0, none⟩ = some (.int .i64 E.op) ∧ W.cell? ⟨P, 1, none⟩ = some (.int .i64 E.of_) ∧ W.cell? ⟨P, 2, none⟩ = some (.string E.holder) ∧ W.cell? ⟨P, 3, none⟩ = some (.int .i64 E.kind) ∧ W.cell? ⟨P, 4, none⟩ = some (.slice sa E.secs.length sc) ∧ W.cell? ⟨P, 5, none⟩ = some (.string E.text)) ∧ W.frozen? ⟨P, 0, none⟩ = false ∧ W.frozen? ⟨P, 1, none⟩ = false ∧ W.frozen? ⟨P, 2, none⟩ = false ∧ W.frozen? ⟨P, 3, none⟩ = false ∧ W.frozen? ⟨P, 4, none⟩ = false ∧ W.frozen? ⟨P, 5, none⟩ = false :=
  ⟨h.lt, ev_cells h.box, frozen_of_box h.box, frozen_of_box h.box, frozen_of_box h.box, frozen_of_box h.box, frozen_of_box h.box, frozen_of_box h.box⟩
theorem EBox.fr {W W' : World} {base P : Nat} {E : Ev} {sa : Option Addr} {sc : Nat} (h : EBox W base P E sa sc) {S : Nat → Prop} (hf : Fr S W W') (hP : ¬ S P) (hs : ∀ g, base ≤ g → ¬ S g) : EBox W' base P E sa sc :=
  ⟨(hf.block _ h.lt hP).trans h.box, owns_of_block h.own (fun g hg => hf.block g (owns_lt h.own hg).2 (hs g (owns_lt h.own hg).1)), h.ne⟩
theorem EBox.below {W W' : World} {base P : Nat} {E : Ev} {sa : Option Addr} {sc : Nat} (h : EBox W base P E sa sc) (hb : Below W.heap.size W W') : EBox W' base P E sa sc :=
  ⟨(hb.block _ h.lt).trans h.box, owns_below h.own hb, h.ne⟩
theorem EBox.keep {W : World} {base P : Nat} {E : Ev} {sa : Option Addr} {sc : Nat} (h : EBox W base P E sa sc) (i : Nat) (u : Value) : (W.setCell ⟨P, i, none⟩ u).ownsRow base 3 1 (.slice sa E.secs.length sc) E.secs.length (E.secs.map (Value.int .i64)) :=
  owns_of_block h.own (fun g hg => Deep.blk_setCell_other _ _ _ _ (h.ne g hg))
theorem EBox.setOp {W : World} {base P : Nat} {E : Ev} {sa : Option Addr} {sc : Nat} (h : EBox W base P E sa sc) (r : Int) : EBox (W.setCell ⟨P, 0, none⟩ (.int .i64 r)) base P ⟨r, E.of_, E.holder, E.kind, E.secs, E.text⟩ sa sc :=
  ⟨(box_set h.box _).trans rfl, h.keep _ _, h.ne⟩
theorem EBox.setOf {W : World} {base P : Nat} {E : Ev} {sa : Option Addr} {sc : Nat} (h : EBox W base P E sa sc) (r : Int) : EBox (W.setCell ⟨P, 1, none⟩ (.int .i64 r)) base P ⟨E.op, r, E.holder, E.kind, E.secs, E.text⟩ sa sc :=
  ⟨(box_set h.box _).trans rfl, h.keep _ _, h.ne⟩
theorem EBox.setHolder {W : World} {base P : Nat} {E : Ev} {sa : Option Addr} {sc : Nat} (h : EBox W base P E sa sc) (r : ByteArray) : EBox (W.setCell ⟨P, 2, none⟩ (.string r)) base P ⟨E.op, E.of_, r, E.kind, E.secs, E.text⟩ sa sc :=
  ⟨(box_set h.box _).trans rfl, h.keep _ _, h.ne⟩
theorem EBox.setKind {W : World} {base P : Nat} {E : Ev} {sa : Option Addr} {sc : Nat} (h : EBox W base P E sa sc) (r : Int) : EBox (W.setCell ⟨P, 3, none⟩ (.int .i64 r)) base P ⟨E.op, E.of_, E.holder, r, E.secs, E.text⟩ sa sc :=
  ⟨(box_set h.box _).trans rfl, h.keep _ _, h.ne⟩
theorem EBox.setText {W : World} {base P : Nat} {E : Ev} {sa : Option Addr} {sc : Nat} (h : EBox W base P E sa sc) (r : ByteArray) : EBox (W.setCell ⟨P, 5, none⟩ (.string r)) base P ⟨E.op, E.of_, E.holder, E.kind, E.secs, r⟩ sa sc :=
  ⟨(box_set h.box _).trans rfl, h.keep _ _, h.ne⟩
theorem EBox.setSecs {W : World} {base P : Nat} {E : Ev} {sa : Option Addr} {sc : Nat} (hx : W.heap[P]? = some (.cells #[.int .i64 E.op, .int .i64 E.of_, .string E.holder, .int .i64 E.kind, .slice sa E.secs.length sc, .string E.text] 32 (0, 0))) (l : List Int) (a : Option Addr) (c : Nat) (ho : W.ownsRow base 3 1 (.slice a l.length c) l.length (l.map (Value.int .i64))) (hn : ∀ g, (Value.slice a l.length c).ownBlock = some g → g ≠ P) : EBox (W.setCell ⟨P, 4, none⟩ (.slice a l.length c)) base P ⟨E.op, E.of_, E.holder, E.kind, l, E.text⟩ a c :=
  ⟨(box_set hx _).trans rfl, owns_of_block ho (fun g hg => Deep.blk_setCell_other _ _ _ _ (hn g hg)), hn⟩
theorem EBox.put {W : World} {base P : Nat} {E : Ev} {sa : Option Addr} {sc : Nat} (h : EBox W base P E sa sc) (F : Ev) (a : Option Addr) (c : Nat) (ho : W.ownsRow base 3 1 (.slice a F.secs.length c) F.secs.length (F.secs.map (Value.int .i64))) (hn : ∀ g, (Value.slice a F.secs.length c).ownBlock = some g → g ≠ P) :
    EBox (putE W P (.int .i64 F.op) (.int .i64 F.of_) (.string F.holder) (.int .i64 F.kind) (.slice a F.secs.length c) (.string F.text)) base P F a c :=
  ⟨(box_set (box_set (box_set (box_set (box_set (box_set h.box _) _) _) _) _) _).trans rfl, owns_of_block ho (fun g hg => (putE_fr W P _ _ _ _ _ _).block g (owns_lt ho hg).2 (hn g hg)), hn⟩
theorem putE_size (W : World) (R : Nat) (a b c d e f : Value) : (putE W R a b c d e f).heap.size = W.heap.size := by simp [putE, World.setCell]
theorem EBox.putNew {W : World} {base P : Nat} {E : Ev} {sa : Option Addr} {sc : Nat} (h : EBox W base P E sa sc) (hb : base ≤ W.heap.size) :
    EBox ((putE W P (.int .i64 1) (.int .i64 0) (.string ⟨#[98, 111, 98]⟩) (.int .i64 2) (.slice (some ⟨W.heap.size, 0, none⟩) 1 1) (.string ⟨#[]⟩)).alloc (.cells #[.int .i64 1] 3)) base P ⟨1, 0, ⟨#[98, 111, 98]⟩, 2, [1], ⟨#[]⟩⟩ (some ⟨W.heap.size, 0, none⟩) 1 := by
  have hl := h.lt
  have s := putE_size W P (.int .i64 1) (.int .i64 0) (.string ⟨#[98, 111, 98]⟩) (.int .i64 2) (.slice (some ⟨W.heap.size, 0, none⟩) 1 1) (.string ⟨#[]⟩)
  have e := Deep.blk_alloc_new (putE W P (.int .i64 1) (.int .i64 0) (.string ⟨#[98, 111, 98]⟩) (.int .i64 2) (.slice (some ⟨W.heap.size, 0, none⟩) 1 1) (.string ⟨#[]⟩)) (.cells #[.int .i64 1] 3)
  rw [s] at e
  refine ⟨?_, ⟨rfl, Or.inr ⟨W.heap.size, 1, #[.int .i64 1], rfl, hb, e, by simp, by unfold maxLen; omega, rfl, rfl⟩⟩, fun g hg => by have h2 : W.heap.size = g := Option.some.inj hg; clear s e; omega⟩
  refine ((below1 _ _).block _ (by rw [s]; exact hl)).trans ?_
  exact (box_set (box_set (box_set (box_set (box_set (box_set h.box _) _) _) _) _) _).trans rfl
def txtLen (w : World) (q : Nat) : Nat := match w.cell? ⟨q, 5, none⟩ with
  | some (.string s) => s.size
  | _ => 0
theorem EBox.txt {W : World} {base P : Nat} {E : Ev} {sa : Option Addr} {sc : Nat} (h : EBox W base P E sa sc) : txtLen W P = E.text.size := by
  obtain ⟨-, -, -, -, -, q5⟩ := ev_cells h.box
  unfold txtLen
  rw [q5]
def evV (F : Ev) (a : Option Addr) (c : Nat) : Value := .agg #[.int .i64 F.op, .int .i64 F.of_, .string F.holder, .int .i64 F.kind, .slice a F.secs.length c, .string F.text]
theorem Dr.doneV {w W : World} {p lo : Nat} {ad : Option Addr} {n c : Nat} {V : Nat → UInt8} {t d : Nat} {v : Value} {B : Bk} {K : Blk} {o1 o2 : Obj} (h : Dr w ((w.alloc o1).alloc o2) W p lo ad n c V t d v B K) (h0 : Cur w p ad n c V t) (F : Ev) (a : Option Addr) (k : Nat) :
    CurTo (putE W (w.heap.size + 1) (.int .i64 F.op) (.int .i64 F.of_) (.string F.holder) (.int .i64 F.kind) (.slice a F.secs.length k) (.string F.text)) p ad n c V t d ∧ Fr (fun x => x = p) w (putE W (w.heap.size + 1) (.int .i64 F.op) (.int .i64 F.of_) (.string F.holder) (.int .i64 F.kind) (.slice a F.secs.length k) (.string F.text)) := h.done h0 _ _ _ _ _ _
theorem six {w : World} {A k : Nat} {a b c d e f : Int} (h : w.heap[A]? = some (.cells #[.int .i64 a, .int .i64 b, .int .i64 c, .int .i64 d, .int .i64 e, .int .i64 f] 3 (0, 0))) (hk : k < 6) : w.cell? ⟨A, k, none⟩ = some (.int .i64 (([a, b, c, d, e, f] : List Int).getD k 0)) := by
  rcases (show k = 0 ∨ k = 1 ∨ k = 2 ∨ k = 3 ∨ k = 4 ∨ k = 5 by omega) with rfl | rfl | rfl | rfl | rfl | rfl
  all_goals simp [World.cell?, h]
def oddH (k : Nat) : ByteArray := ([⟨#[]⟩, ⟨#[65]⟩, ⟨#[97, 110, 110]⟩, ⟨#[97, 98, 99, 100, 101, 102, 103, 104, 105, 106, 107, 108, 109, 110, 111, 112, 113, 114, 115, 116]⟩, ⟨#[97, 98, 99, 100, 101, 102, 103, 104, 105, 106, 107, 108, 109, 110, 111, 112, 113, 114, 115, 116, 117]⟩] : List ByteArray).getD k ⟨#[]⟩
theorem oddH_size (k : Nat) : (oddH k).size ≤ 21 := by
  rcases (show k = 0 ∨ k = 1 ∨ k = 2 ∨ k = 3 ∨ k = 4 ∨ 5 ≤ k by omega) with rfl | rfl | rfl | rfl | rfl | h
  iterate 5 (· decide)
  unfold oddH
  rw [List.getD_eq_getElem?_getD, List.getElem?_eq_none (by simpa using h)]
  decide
theorem five {w : World} {A k : Nat} (h : w.heap[A]? = some (.cells #[.string ⟨#[]⟩, .string ⟨#[65]⟩, .string ⟨#[97, 110, 110]⟩, .string ⟨#[97, 98, 99, 100, 101, 102, 103, 104, 105, 106, 107, 108, 109, 110, 111, 112, 113, 114, 115, 116]⟩, .string ⟨#[97, 98, 99, 100, 101, 102, 103, 104, 105, 106, 107, 108, 109, 110, 111, 112, 113, 114, 115, 116, 117]⟩] 9 (0, 0))) (hk : k < 5) : w.cell? ⟨A, k, none⟩ = some (.string (oddH k)) := by
  rcases (show k = 0 ∨ k = 1 ∨ k = 2 ∨ k = 3 ∨ k = 4 by omega) with rfl | rfl | rfl | rfl | rfl
  all_goals (simp [World.cell?, h]; rfl)
set_option maxRecDepth 20000 in
set_option maxHeartbeats 16000000 in
theorem odd_any (p : Nat) (ad : Option Addr) (n c : Nat) (V : Nat → UInt8) (t lo : Nat) (v : Value) (B : Bk) (K : Blk) (w : World) (ht : t ≤ 600000000) (hn : n ≤ 1048576) (hc : Cur w p ad n c V t) (hO : OwnBook w lo v B K) (hlo : p < lo) (hT : Tiny B) (hN : Names B) (hb : -9223372036854775808 ≤ B.n ∧ B.n ≤ 60) (hb1 : 0 ≤ B.n) :
    Calls Tryz.prog 55 #[.pointer (some ⟨p, 0, none⟩), v] w fun e w' => RetO2 e w' w.heap.size ∧ CurTo w' p ad n c V t 230 ∧ Fr (fun x => x = p) w w' := by
  have hp := hc.lt
  obtain ⟨ao, co, al, cl, ac, cc, hv, -⟩ := hO.shape
  subst hv
  obtain ⟨i0, hi, hz0, hz1, hz2⟩ := info_parts Tryz.infoInt
  have HC : Hid (Cur w p ad n c V t) := hc
  have HO : Hid (OwnBook w lo (.agg #[.int .i64 B.n, .slice ao B.orders.length co, .slice al B.locked.length cl, .slice ac B.occ.length cc]) B K) := hO
  have B2 := below2 w (.cells #[.int .i64 B.n, .slice ao B.orders.length co, .slice al B.locked.length cl, .slice ac B.occ.length cc] 37) (.cells #[.int .i64 0, .int .i64 0, .string ⟨#[]⟩, .int .i64 0, .slice none 0 0, .string ⟨#[]⟩] 32)
  have H0 : DrH w ((w.alloc (.cells #[.int .i64 B.n, .slice ao B.orders.length co, .slice al B.locked.length cl, .slice ac B.occ.length cc] 37)).alloc (.cells #[.int .i64 0, .int .i64 0, .string ⟨#[]⟩, .int .i64 0, .slice none 0 0, .string ⟨#[]⟩] 32)) p lo ad n c V t 0 B K ao co al cl ac cc := ⟨⟨t, by omega, hc.below B2⟩, hO.below B2, Fr.refl _ _⟩
  have HB : Hid (Tiny B ∧ Names B) := ⟨hT, hN⟩
  have ho201 : B.orders.length ≤ 201 := hT.o
  clear hc hO hT hN B2
  go_enter Tryz.func55, Tryz.ntmps55
  go_wp2_with fail
  obtain ⟨t1, ht1, hc1⟩ := H0.out.cur
  refine (event_any p ad n c V t1 lo _ B K _ (by omega) hn hc1 H0.out.own hlo HB.out.1 HB.out.2 hb).mono ?_
  clear hc1
  rintro e w1 ⟨⟨v1, E, rfl, ⟨sv, rfl, ho1⟩, hs1⟩, ⟨u1, hu1, hv1⟩, hf1⟩
  obtain ⟨g1, a1, c1, rfl, -⟩ := ownL_of ho1
  have zs : w.heap.size + 2 ≤ w1.heap.size := by
    have := hf1.size
    simp at this
    omega
  have D1 : DrH w w1 p lo ad n c V t 200 B K ao co al cl ac cc := H0.out.step hlo ⟨u1, by omega, hv1⟩ hf1
  have ho1' : w1.ownsRow (w.heap.size + 2) 3 1 (.slice a1 E.secs.length c1) E.secs.length (E.secs.map (Value.int .i64)) := owns_low ho1 (by simp)
  have HS : Hid (SmallE E) := hs1
  clear hv1 hf1 hu1 ho1 hs1 ht1
  go_wp2_with fail
  have D2 : DrH w (w1.alloc (.cells #[.int .i64 E.op, .int .i64 E.of_, .string E.holder, .int .i64 E.kind, .slice a1 E.secs.length c1, .string E.text] 32)) p lo ad n c V t 200 B K ao co al cl ac cc := D1.out.below (below1 _ _)
  have X2 : Hid (EBox (w1.alloc (.cells #[.int .i64 E.op, .int .i64 E.of_, .string E.holder, .int .i64 E.kind, .slice a1 E.secs.length c1, .string E.text] 32)) (w.heap.size + 2) w1.heap.size E a1 c1) := ⟨Deep.blk_alloc_new _ _, owns_below ho1' (below1 _ _), fun g hg => by have := (owns_lt ho1' hg).2; omega⟩
  clear D1 ho1'
  obtain ⟨t2, ht2, hc2⟩ := D2.out.cur
  refine (pick_any p ad n c V t2 6 _ (by omega) hn (by omega) hc2).mono ?_
  clear hc2
  rintro e w3 ⟨⟨r, rfl, -, hr⟩, ⟨u3, hu3, hv3⟩, hf3⟩
  have hr6 : r < 6 := by have := hr (by omega); omega
  have D3 : DrH w w3 p lo ad n c V t 202 B K ao co al cl ac cc := D2.out.step hlo ⟨u3, by omega, hv3⟩ hf3
  have X3 : Hid (EBox w3 (w.heap.size + 2) w1.heap.size E a1 c1) := X2.out.fr hf3 (by omega) (fun g hg => by omega)
  clear hr hv3 hf3 hu3 D2 X2 H0
  obtain ⟨⟨zb, zr⟩, ⟨p0, p1, p2, p3⟩, ⟨e0, e1, e2, e3, e4, e5⟩, f0, f1, f2, f3, f4, f5⟩ := DrH.facts D3 hp
  obtain ⟨zp, ⟨q0, q1, q2, q3, q4, q5⟩, h0, h1, h2, h3, h4, h5⟩ := X3.out.facts
  rcases (show r = 0 ∨ r = 1 ∨ r = 2 ∨ r = 3 ∨ r = 4 ∨ r = 5 by omega) with rfl | rfl | rfl | rfl | rfl | rfl
  · skip
    go_wp2_with fail
    obtain ⟨t4, ht4, hc4⟩ := D3.out.cur
    refine (pick_any p ad n c V t4 11 _ (by omega) hn (by omega) hc4).mono ?_
    clear hc4
    rintro e w104 ⟨⟨r4, rfl, hq4, hr4⟩, ⟨u4, hu4, hv4⟩, hf4⟩
    have D4 : DrH w w104 p lo ad n c V t 204 B K ao co al cl ac cc := D3.out.step hlo ⟨u4, by omega, hv4⟩ hf4
    have X4 : Hid (EBox w104 (w.heap.size + 2) w1.heap.size E a1 c1) := X3.out.fr hf4 (by omega) (fun g hg => by omega)
    clear hv4 hf4 ht4 hu4 D3 X3
    clear zb zr zp p0 p1 p2 p3 e0 e1 e2 e3 e4 e5 f0 f1 f2 f3 f4 f5 q0 q1 q2 q3 q4 q5 h0 h1 h2 h3 h4 h5
    obtain ⟨⟨zb, zr⟩, ⟨p0, p1, p2, p3⟩, ⟨e0, e1, e2, e3, e4, e5⟩, f0, f1, f2, f3, f4, f5⟩ := DrH.facts D4 hp
    obtain ⟨zp, ⟨q0, q1, q2, q3, q4, q5⟩, h0, h1, h2, h3, h4, h5⟩ := X4.out.facts
    clear hq4 hr4
    go_upto_region 22 with (fail)
    have DY : DrH w (w104.setCell ⟨w1.heap.size, 0, none⟩ (.int .i64 (r4 : Int))) p lo ad n c V t 204 B K ao co al cl ac cc := D4.out.turn HC.out HO.out (fr1 (Fr.refl _ _)) (fun x e => by omega)
    have XY : Hid (EBox (w104.setCell ⟨w1.heap.size, 0, none⟩ (.int .i64 (r4 : Int))) (w.heap.size + 2) w1.heap.size ⟨(r4 : Int), E.of_, E.holder, E.kind, E.secs, E.text⟩ a1 c1) := X4.out.setOp _
    obtain ⟨Y, hY⟩ : ∃ Y, Y = (w104.setCell ⟨w1.heap.size, 0, none⟩ (.int .i64 (r4 : Int))) := ⟨_, rfl⟩
    rw [← hY] at DY XY ⊢
    clear hY D4 X4 
    clear zb zr zp p0 p1 p2 p3 e0 e1 e2 e3 e4 e5 f0 f1 f2 f3 f4 f5 q0 q1 q2 q3 q4 q5 h0 h1 h2 h3 h4 h5
    obtain ⟨⟨zb, zr⟩, ⟨p0, p1, p2, p3⟩, ⟨e0, e1, e2, e3, e4, e5⟩, f0, f1, f2, f3, f4, f5⟩ := DrH.facts DY hp
    obtain ⟨zp, ⟨q0, q1, q2, q3, q4, q5⟩, h0, h1, h2, h3, h4, h5⟩ := XY.out.facts
    go_wp2
    refine bodyPost_ret (v := evV ⟨(r4 : Int), E.of_, E.holder, E.kind, E.secs, E.text⟩ a1 c1) (by simp [evV, results, Tryz.results55, go_sem, e0, e1, e2, e3, e4, e5]) rfl ?_
    have dn := DY.out.doneV HC.out ⟨(r4 : Int), E.of_, E.holder, E.kind, E.secs, E.text⟩ a1 c1
    exact ⟨⟨_, ⟨(r4 : Int), E.of_, E.holder, E.kind, E.secs, E.text⟩, rfl, ⟨_, rfl, owns_low (row_fr XY.out.own (putE_fr _ _ _ _ _ _ _ _) (by omega)) (by omega)⟩, HS.out.odd⟩, dn.1.mono (by omega), dn.2⟩
  · skip
    go_upto_region 13 with (fail)
    refine wp_region_held_drew (S := (fun w' => w'.cell? ⟨w.heap.size, 0, none⟩ = some (.int .i64 B.n) ∧ w'.cell? ⟨w.heap.size, 1, none⟩ = some (.slice ao B.orders.length co))) (by kernel_rfl) (by simp [go_sem, p0, p1]) (fun hS0 => ?_)
    refine tk 0 rfl ?_; refine tk 1 rfl ?_; refine tk 2 rfl ?_; refine tk 3 rfl ?_; refine tk 4 rfl ?_; refine tk 5 rfl ?_; refine tk 6 rfl ?_; refine tk 7 rfl ?_; refine tk 9 rfl ?_
    refine wpAnyH_ready (rs := [8, 10]) (by kernel_rfl) (by simp) ?_
    refine AllReadyH.cons rfl (fun Kx hK => ?_) (AllReadyH.cons rfl (fun Kx hK => ?_) (AllReadyH.nil))
    · skip
      go_simp
      generalize IntKind.i64.wrap (B.n - 1) = z7
      have zw3 : w1.heap.size < w3.heap.size := zp
      have bq := (below1 w3 (.cells #[.int .i64 (-1), .int .i64 (B.orders.length : Int), .int .i64 B.n, .int .i64 z7, .int .i64 199, .int .i64 200] 3)).drew
      have DA : DrH w (w3.alloc (.cells #[.int .i64 (-1), .int .i64 (B.orders.length : Int), .int .i64 B.n, .int .i64 z7, .int .i64 199, .int .i64 200] 3)).drew p lo ad n c V t 202 B K ao co al cl ac cc := D3.out.below bq
      have XA : Hid (EBox (w3.alloc (.cells #[.int .i64 (-1), .int .i64 (B.orders.length : Int), .int .i64 B.n, .int .i64 z7, .int .i64 199, .int .i64 200] 3)).drew (w.heap.size + 2) w1.heap.size E a1 c1) := X3.out.below bq
      have xa : (w3.alloc (.cells #[.int .i64 (-1), .int .i64 (B.orders.length : Int), .int .i64 B.n, .int .i64 z7, .int .i64 199, .int .i64 200] 3)).drew.heap[w3.heap.size]? = some (.cells #[.int .i64 (-1), .int .i64 (B.orders.length : Int), .int .i64 B.n, .int .i64 z7, .int .i64 199, .int .i64 200] 3 (0, 0)) := Deep.blk_alloc_new _ _
      have za : w3.heap.size < (w3.alloc (.cells #[.int .i64 (-1), .int .i64 (B.orders.length : Int), .int .i64 B.n, .int .i64 z7, .int .i64 199, .int .i64 200] 3)).drew.heap.size := by simp
      obtain ⟨WA, hWq⟩ : ∃ x, x = (w3.alloc (.cells #[.int .i64 (-1), .int .i64 (B.orders.length : Int), .int .i64 B.n, .int .i64 z7, .int .i64 199, .int .i64 200] 3)).drew := ⟨_, rfl⟩
      rw [← hWq] at DA XA xa za ⊢
      clear hWq bq D3 X3
      clear zb zr zp p0 p1 p2 p3 e0 e1 e2 e3 e4 e5 f0 f1 f2 f3 f4 f5 q0 q1 q2 q3 q4 q5 h0 h1 h2 h3 h4 h5
      obtain ⟨⟨zb, zr⟩, ⟨p0, p1, p2, p3⟩, ⟨e0, e1, e2, e3, e4, e5⟩, f0, f1, f2, f3, f4, f5⟩ := DrH.facts DA hp
      obtain ⟨zp, ⟨q0, q1, q2, q3, q4, q5⟩, h0, h1, h2, h3, h4, h5⟩ := XA.out.facts
      refine hK.out _ _ ⟨p0, p1⟩ (fun hS1 => ?_)
      clear hK Kx hS0
      refine wpAnyH_ready (rs := [10]) (by kernel_rfl) (by simp) ?_
      refine AllReadyH.cons rfl (fun Kx hK => ?_) (AllReadyH.nil)
      go_simp
      obtain ⟨t5, ht5, hc5⟩ := DA.out.cur
      refine (pick_any p ad n c V t5 6 _ (by omega) hn (by omega) hc5).mono ?_
      clear hc5
      rintro e w105 ⟨⟨r5, rfl, hq5, hr5⟩, ⟨u5, hu5, hv5⟩, hf5⟩
      have D5 : DrH w w105 p lo ad n c V t 204 B K ao co al cl ac cc := DA.out.step hlo ⟨u5, by omega, hv5⟩ hf5
      have X5 : Hid (EBox w105 (w.heap.size + 2) w1.heap.size E a1 c1) := XA.out.fr hf5 (by omega) (fun g hg => by omega)
      have x5 := (hf5.block _ za (by omega)).trans xa
      have z5 : w3.heap.size < w105.heap.size := Nat.lt_of_lt_of_le za hf5.size
      clear xa za
      clear hv5 hf5 ht5 hu5 DA XA
      clear zb zr zp p0 p1 p2 p3 e0 e1 e2 e3 e4 e5 f0 f1 f2 f3 f4 f5 q0 q1 q2 q3 q4 q5 h0 h1 h2 h3 h4 h5
      obtain ⟨⟨zb, zr⟩, ⟨p0, p1, p2, p3⟩, ⟨e0, e1, e2, e3, e4, e5⟩, f0, f1, f2, f3, f4, f5⟩ := DrH.facts D5 hp
      obtain ⟨zp, ⟨q0, q1, q2, q3, q4, q5⟩, h0, h1, h2, h3, h4, h5⟩ := X5.out.facts
      refine hK.out _ _ ⟨p0, p1⟩ (fun hS2 => ?_)
      clear hK Kx hS1
      obtain ⟨x, hx⟩ : ∃ x : Int, x = ([-1, (B.orders.length : Int), B.n, z7, 199, 200] : List Int).getD r5 0 := ⟨_, rfl⟩
      have zarr : w3.heap.size < w105.heap.size := z5
      have b6 : r5 < 6 := by have := hr5 (by omega); omega
      have y := six x5 b6
      rw [← hx] at y; clear hx
      clear x5 hq5 hr5
      have i6 : (r5 : Int) < 6 := by omega
      refine tk 11 rfl ?_
      refine wpAnyH_ready (rs := [12]) (by kernel_rfl) (by simp) ?_
      refine AllReadyH.cons rfl (fun Kx hK => ?_) (AllReadyH.nil)
      go_simp
      refine hK.out _ _ ⟨p0, p1⟩ (fun hS9 => ?_)
      clear hK Kx hS9
      refine tk 13 rfl ?_
      refine wpAnyH_ready (rs := [14]) (by kernel_rfl) (by simp) ?_
      refine AllReadyH.cons rfl (fun Kx hK => ?_) (AllReadyH.nil)
      go_simp
      refine hK.out _ _ ⟨(cell_other (by omega)).trans p0, (cell_other (by omega)).trans p1⟩ (fun hS9 => ?_)
      clear hK Kx hS9
      refine wpAnyH_done (by kernel_rfl) ?_ _
      go_simp
      go_upto_region 22 with (fail)
      have DY : DrH w (w105.setCell ⟨w1.heap.size, 1, none⟩ (.int .i64 x)) p lo ad n c V t 204 B K ao co al cl ac cc := D5.out.turn HC.out HO.out (fr1 (Fr.refl _ _)) (fun x e => by omega)
      have XY : Hid (EBox (w105.setCell ⟨w1.heap.size, 1, none⟩ (.int .i64 x)) (w.heap.size + 2) w1.heap.size ⟨E.op, x, E.holder, E.kind, E.secs, E.text⟩ a1 c1) := X5.out.setOf _
      obtain ⟨Y, hY⟩ : ∃ Y, Y = (w105.setCell ⟨w1.heap.size, 1, none⟩ (.int .i64 x)) := ⟨_, rfl⟩
      rw [← hY] at DY XY ⊢
      clear hY D5 X5 
      clear zb zr zp p0 p1 p2 p3 e0 e1 e2 e3 e4 e5 f0 f1 f2 f3 f4 f5 q0 q1 q2 q3 q4 q5 h0 h1 h2 h3 h4 h5
      obtain ⟨⟨zb, zr⟩, ⟨p0, p1, p2, p3⟩, ⟨e0, e1, e2, e3, e4, e5⟩, f0, f1, f2, f3, f4, f5⟩ := DrH.facts DY hp
      obtain ⟨zp, ⟨q0, q1, q2, q3, q4, q5⟩, h0, h1, h2, h3, h4, h5⟩ := XY.out.facts
      go_wp2
      refine bodyPost_ret (v := evV ⟨E.op, x, E.holder, E.kind, E.secs, E.text⟩ a1 c1) (by simp [evV, results, Tryz.results55, go_sem, e0, e1, e2, e3, e4, e5]) rfl ?_
      have dn := DY.out.doneV HC.out ⟨E.op, x, E.holder, E.kind, E.secs, E.text⟩ a1 c1
      exact ⟨⟨_, ⟨E.op, x, E.holder, E.kind, E.secs, E.text⟩, rfl, ⟨_, rfl, owns_low (row_fr XY.out.own (putE_fr _ _ _ _ _ _ _ _) (by omega)) (by omega)⟩, HS.out.odd⟩, dn.1.mono (by omega), dn.2⟩
    · skip
      go_simp
      generalize IntKind.i64.wrap (B.n - 1) = z7
      have DQ : DrH w w3.drew p lo ad n c V t 202 B K ao co al cl ac cc := D3.out.below (Below.refl _ _).drew
      have XQ : Hid (EBox w3.drew (w.heap.size + 2) w1.heap.size E a1 c1) := X3.out.below (Below.refl _ _).drew
      clear D3 X3
      obtain ⟨t6, ht6, hc6⟩ := DQ.out.cur
      refine (pick_any p ad n c V t6 6 _ (by omega) hn (by omega) hc6).mono ?_
      clear hc6
      rintro e w106 ⟨⟨r6, rfl, hq6, hr6⟩, ⟨u6, hu6, hv6⟩, hf6⟩
      have D6 : DrH w w106 p lo ad n c V t 204 B K ao co al cl ac cc := DQ.out.step hlo ⟨u6, by omega, hv6⟩ hf6
      have X6 : Hid (EBox w106 (w.heap.size + 2) w1.heap.size E a1 c1) := XQ.out.fr hf6 (by omega) (fun g hg => by omega)
      clear hv6 hf6 ht6 hu6 DQ XQ
      clear zb zr zp p0 p1 p2 p3 e0 e1 e2 e3 e4 e5 f0 f1 f2 f3 f4 f5 q0 q1 q2 q3 q4 q5 h0 h1 h2 h3 h4 h5
      obtain ⟨⟨zb, zr⟩, ⟨p0, p1, p2, p3⟩, ⟨e0, e1, e2, e3, e4, e5⟩, f0, f1, f2, f3, f4, f5⟩ := DrH.facts D6 hp
      obtain ⟨zp, ⟨q0, q1, q2, q3, q4, q5⟩, h0, h1, h2, h3, h4, h5⟩ := X6.out.facts
      refine hK.out _ _ ⟨p0, p1⟩ (fun hS2 => ?_)
      clear hK Kx hS0
      refine wpAnyH_ready (rs := [8]) (by kernel_rfl) (by simp) ?_
      refine AllReadyH.cons rfl (fun Kx hK => ?_) (AllReadyH.nil)
      go_simp
      have bq := (below1 w106 (.cells #[.int .i64 (-1), .int .i64 (B.orders.length : Int), .int .i64 B.n, .int .i64 z7, .int .i64 199, .int .i64 200] 3))
      have DA : DrH w (w106.alloc (.cells #[.int .i64 (-1), .int .i64 (B.orders.length : Int), .int .i64 B.n, .int .i64 z7, .int .i64 199, .int .i64 200] 3)) p lo ad n c V t 204 B K ao co al cl ac cc := D6.out.below bq
      have XA : Hid (EBox (w106.alloc (.cells #[.int .i64 (-1), .int .i64 (B.orders.length : Int), .int .i64 B.n, .int .i64 z7, .int .i64 199, .int .i64 200] 3)) (w.heap.size + 2) w1.heap.size E a1 c1) := X6.out.below bq
      have xa : (w106.alloc (.cells #[.int .i64 (-1), .int .i64 (B.orders.length : Int), .int .i64 B.n, .int .i64 z7, .int .i64 199, .int .i64 200] 3)).heap[w106.heap.size]? = some (.cells #[.int .i64 (-1), .int .i64 (B.orders.length : Int), .int .i64 B.n, .int .i64 z7, .int .i64 199, .int .i64 200] 3 (0, 0)) := Deep.blk_alloc_new _ _
      have za : w106.heap.size < (w106.alloc (.cells #[.int .i64 (-1), .int .i64 (B.orders.length : Int), .int .i64 B.n, .int .i64 z7, .int .i64 199, .int .i64 200] 3)).heap.size := by simp
      obtain ⟨WA, hWq⟩ : ∃ x, x = (w106.alloc (.cells #[.int .i64 (-1), .int .i64 (B.orders.length : Int), .int .i64 B.n, .int .i64 z7, .int .i64 199, .int .i64 200] 3)) := ⟨_, rfl⟩
      rw [← hWq] at DA XA xa za ⊢
      clear hWq bq D6 X6
      clear zb zr zp p0 p1 p2 p3 e0 e1 e2 e3 e4 e5 f0 f1 f2 f3 f4 f5 q0 q1 q2 q3 q4 q5 h0 h1 h2 h3 h4 h5
      obtain ⟨⟨zb, zr⟩, ⟨p0, p1, p2, p3⟩, ⟨e0, e1, e2, e3, e4, e5⟩, f0, f1, f2, f3, f4, f5⟩ := DrH.facts DA hp
      obtain ⟨zp, ⟨q0, q1, q2, q3, q4, q5⟩, h0, h1, h2, h3, h4, h5⟩ := XA.out.facts
      refine hK.out _ _ ⟨p0, p1⟩ (fun hS1 => ?_)
      clear hK Kx hS2
      obtain ⟨x, hx⟩ : ∃ x : Int, x = ([-1, (B.orders.length : Int), B.n, z7, 199, 200] : List Int).getD r6 0 := ⟨_, rfl⟩
      have zarr : w106.heap.size < WA.heap.size := za
      have b6 : r6 < 6 := by have := hr6 (by omega); omega
      have y := six xa b6
      rw [← hx] at y; clear hx
      clear xa hq6 hr6
      have i6 : (r6 : Int) < 6 := by omega
      refine tk 11 rfl ?_
      refine wpAnyH_ready (rs := [12]) (by kernel_rfl) (by simp) ?_
      refine AllReadyH.cons rfl (fun Kx hK => ?_) (AllReadyH.nil)
      go_simp
      refine hK.out _ _ ⟨p0, p1⟩ (fun hS9 => ?_)
      clear hK Kx hS9
      refine tk 13 rfl ?_
      refine wpAnyH_ready (rs := [14]) (by kernel_rfl) (by simp) ?_
      refine AllReadyH.cons rfl (fun Kx hK => ?_) (AllReadyH.nil)
      go_simp
      refine hK.out _ _ ⟨(cell_other (by omega)).trans p0, (cell_other (by omega)).trans p1⟩ (fun hS9 => ?_)
      clear hK Kx hS9
      refine wpAnyH_done (by kernel_rfl) ?_ _
      go_simp
      go_upto_region 22 with (fail)
      have DY : DrH w (WA.setCell ⟨w1.heap.size, 1, none⟩ (.int .i64 x)) p lo ad n c V t 204 B K ao co al cl ac cc := DA.out.turn HC.out HO.out (fr1 (Fr.refl _ _)) (fun x e => by omega)
      have XY : Hid (EBox (WA.setCell ⟨w1.heap.size, 1, none⟩ (.int .i64 x)) (w.heap.size + 2) w1.heap.size ⟨E.op, x, E.holder, E.kind, E.secs, E.text⟩ a1 c1) := XA.out.setOf _
      obtain ⟨Y, hY⟩ : ∃ Y, Y = (WA.setCell ⟨w1.heap.size, 1, none⟩ (.int .i64 x)) := ⟨_, rfl⟩
      rw [← hY] at DY XY ⊢
      clear hY DA XA 
      clear zb zr zp p0 p1 p2 p3 e0 e1 e2 e3 e4 e5 f0 f1 f2 f3 f4 f5 q0 q1 q2 q3 q4 q5 h0 h1 h2 h3 h4 h5
      obtain ⟨⟨zb, zr⟩, ⟨p0, p1, p2, p3⟩, ⟨e0, e1, e2, e3, e4, e5⟩, f0, f1, f2, f3, f4, f5⟩ := DrH.facts DY hp
      obtain ⟨zp, ⟨q0, q1, q2, q3, q4, q5⟩, h0, h1, h2, h3, h4, h5⟩ := XY.out.facts
      go_wp2
      refine bodyPost_ret (v := evV ⟨E.op, x, E.holder, E.kind, E.secs, E.text⟩ a1 c1) (by simp [evV, results, Tryz.results55, go_sem, e0, e1, e2, e3, e4, e5]) rfl ?_
      have dn := DY.out.doneV HC.out ⟨E.op, x, E.holder, E.kind, E.secs, E.text⟩ a1 c1
      exact ⟨⟨_, ⟨E.op, x, E.holder, E.kind, E.secs, E.text⟩, rfl, ⟨_, rfl, owns_low (row_fr XY.out.own (putE_fr _ _ _ _ _ _ _ _) (by omega)) (by omega)⟩, HS.out.odd⟩, dn.1.mono (by omega), dn.2⟩
  · skip
    go_wp2_with fail
    have bq := below1 w3 (.cells #[.string ⟨#[]⟩, .string ⟨#[65]⟩, .string ⟨#[97, 110, 110]⟩, .string ⟨#[97, 98, 99, 100, 101, 102, 103, 104, 105, 106, 107, 108, 109, 110, 111, 112, 113, 114, 115, 116]⟩, .string ⟨#[97, 98, 99, 100, 101, 102, 103, 104, 105, 106, 107, 108, 109, 110, 111, 112, 113, 114, 115, 116, 117]⟩] 9)
    have DA : DrH w (w3.alloc (.cells #[.string ⟨#[]⟩, .string ⟨#[65]⟩, .string ⟨#[97, 110, 110]⟩, .string ⟨#[97, 98, 99, 100, 101, 102, 103, 104, 105, 106, 107, 108, 109, 110, 111, 112, 113, 114, 115, 116]⟩, .string ⟨#[97, 98, 99, 100, 101, 102, 103, 104, 105, 106, 107, 108, 109, 110, 111, 112, 113, 114, 115, 116, 117]⟩] 9)) p lo ad n c V t 202 B K ao co al cl ac cc := D3.out.below bq
    have XA : Hid (EBox (w3.alloc (.cells #[.string ⟨#[]⟩, .string ⟨#[65]⟩, .string ⟨#[97, 110, 110]⟩, .string ⟨#[97, 98, 99, 100, 101, 102, 103, 104, 105, 106, 107, 108, 109, 110, 111, 112, 113, 114, 115, 116]⟩, .string ⟨#[97, 98, 99, 100, 101, 102, 103, 104, 105, 106, 107, 108, 109, 110, 111, 112, 113, 114, 115, 116, 117]⟩] 9)) (w.heap.size + 2) w1.heap.size E a1 c1) := X3.out.below bq
    have xa : (w3.alloc (.cells #[.string ⟨#[]⟩, .string ⟨#[65]⟩, .string ⟨#[97, 110, 110]⟩, .string ⟨#[97, 98, 99, 100, 101, 102, 103, 104, 105, 106, 107, 108, 109, 110, 111, 112, 113, 114, 115, 116]⟩, .string ⟨#[97, 98, 99, 100, 101, 102, 103, 104, 105, 106, 107, 108, 109, 110, 111, 112, 113, 114, 115, 116, 117]⟩] 9)).heap[w3.heap.size]? = some (.cells #[.string ⟨#[]⟩, .string ⟨#[65]⟩, .string ⟨#[97, 110, 110]⟩, .string ⟨#[97, 98, 99, 100, 101, 102, 103, 104, 105, 106, 107, 108, 109, 110, 111, 112, 113, 114, 115, 116]⟩, .string ⟨#[97, 98, 99, 100, 101, 102, 103, 104, 105, 106, 107, 108, 109, 110, 111, 112, 113, 114, 115, 116, 117]⟩] 9 (0, 0)) := Deep.blk_alloc_new _ _
    have za : w3.heap.size < (w3.alloc (.cells #[.string ⟨#[]⟩, .string ⟨#[65]⟩, .string ⟨#[97, 110, 110]⟩, .string ⟨#[97, 98, 99, 100, 101, 102, 103, 104, 105, 106, 107, 108, 109, 110, 111, 112, 113, 114, 115, 116]⟩, .string ⟨#[97, 98, 99, 100, 101, 102, 103, 104, 105, 106, 107, 108, 109, 110, 111, 112, 113, 114, 115, 116, 117]⟩] 9)).heap.size := by simp
    have zw3 : w1.heap.size < w3.heap.size := zp
    obtain ⟨WA, hWA⟩ : ∃ WA, WA = w3.alloc (.cells #[.string ⟨#[]⟩, .string ⟨#[65]⟩, .string ⟨#[97, 110, 110]⟩, .string ⟨#[97, 98, 99, 100, 101, 102, 103, 104, 105, 106, 107, 108, 109, 110, 111, 112, 113, 114, 115, 116]⟩, .string ⟨#[97, 98, 99, 100, 101, 102, 103, 104, 105, 106, 107, 108, 109, 110, 111, 112, 113, 114, 115, 116, 117]⟩] 9) := ⟨_, rfl⟩
    rw [← hWA] at DA XA xa za ⊢
    clear hWA D3 X3 bq
    obtain ⟨t7, ht7, hc7⟩ := DA.out.cur
    refine (pick_any p ad n c V t7 5 _ (by omega) hn (by omega) hc7).mono ?_
    clear hc7
    rintro e w107 ⟨⟨r7, rfl, hq7, hr7⟩, ⟨u7, hu7, hv7⟩, hf7⟩
    have b7 : r7 < 5 := by have := hr7 (by omega); omega
    have D7 : DrH w w107 p lo ad n c V t 204 B K ao co al cl ac cc := DA.out.step hlo ⟨u7, by omega, hv7⟩ hf7
    have X7 : Hid (EBox w107 (w.heap.size + 2) w1.heap.size E a1 c1) := XA.out.fr hf7 (by omega) (fun g hg => by omega)
    have x7 := (hf7.block _ za (by omega)).trans xa
    obtain ⟨x, hx, hxs⟩ : ∃ x : ByteArray, x = oddH r7 ∧ x.size ≤ 21 := ⟨_, rfl, oddH_size r7⟩
    have y := five x7 b7
    rw [← hx] at y; clear hx
    clear hv7 hf7 ht7 hu7 DA XA x7 xa za hq7 hr7
    clear zb zr zp p0 p1 p2 p3 e0 e1 e2 e3 e4 e5 f0 f1 f2 f3 f4 f5 q0 q1 q2 q3 q4 q5 h0 h1 h2 h3 h4 h5
    obtain ⟨⟨zb, zr⟩, ⟨p0, p1, p2, p3⟩, ⟨e0, e1, e2, e3, e4, e5⟩, f0, f1, f2, f3, f4, f5⟩ := DrH.facts D7 hp
    obtain ⟨zp, ⟨q0, q1, q2, q3, q4, q5⟩, h0, h1, h2, h3, h4, h5⟩ := X7.out.facts
    have i7 : (r7 : Int) < 5 := by omega
    go_upto_region 22 with (fail)
    have DY : DrH w (w107.setCell ⟨w1.heap.size, 2, none⟩ (.string x)) p lo ad n c V t 204 B K ao co al cl ac cc := D7.out.turn HC.out HO.out (fr1 (Fr.refl _ _)) (fun x e => by omega)
    have XY : Hid (EBox (w107.setCell ⟨w1.heap.size, 2, none⟩ (.string x)) (w.heap.size + 2) w1.heap.size ⟨E.op, E.of_, x, E.kind, E.secs, E.text⟩ a1 c1) := X7.out.setHolder _
    obtain ⟨Y, hY⟩ : ∃ Y, Y = (w107.setCell ⟨w1.heap.size, 2, none⟩ (.string x)) := ⟨_, rfl⟩
    rw [← hY] at DY XY ⊢
    clear hY D7 X7 
    clear zb zr zp p0 p1 p2 p3 e0 e1 e2 e3 e4 e5 f0 f1 f2 f3 f4 f5 q0 q1 q2 q3 q4 q5 h0 h1 h2 h3 h4 h5
    obtain ⟨⟨zb, zr⟩, ⟨p0, p1, p2, p3⟩, ⟨e0, e1, e2, e3, e4, e5⟩, f0, f1, f2, f3, f4, f5⟩ := DrH.facts DY hp
    obtain ⟨zp, ⟨q0, q1, q2, q3, q4, q5⟩, h0, h1, h2, h3, h4, h5⟩ := XY.out.facts
    go_wp2
    refine bodyPost_ret (v := evV ⟨E.op, E.of_, x, E.kind, E.secs, E.text⟩ a1 c1) (by simp [evV, results, Tryz.results55, go_sem, e0, e1, e2, e3, e4, e5]) rfl ?_
    have dn := DY.out.doneV HC.out ⟨E.op, E.of_, x, E.kind, E.secs, E.text⟩ a1 c1
    exact ⟨⟨_, ⟨E.op, E.of_, x, E.kind, E.secs, E.text⟩, rfl, ⟨_, rfl, owns_low (row_fr XY.out.own (putE_fr _ _ _ _ _ _ _ _) (by omega)) (by omega)⟩, ⟨hxs, HS.out.odd.2.1, HS.out.odd.2.2⟩⟩, dn.1.mono (by omega), dn.2⟩
  · skip
    go_wp2_with fail
    obtain ⟨t8, ht8, hc8⟩ := D3.out.cur
    refine (pick_any p ad n c V t8 4 _ (by omega) hn (by omega) hc8).mono ?_
    clear hc8
    rintro e w108 ⟨⟨r8, rfl, hq8, hr8⟩, ⟨u8, hu8, hv8⟩, hf8⟩
    have D8 : DrH w w108 p lo ad n c V t 204 B K ao co al cl ac cc := D3.out.step hlo ⟨u8, by omega, hv8⟩ hf8
    have X8 : Hid (EBox w108 (w.heap.size + 2) w1.heap.size E a1 c1) := X3.out.fr hf8 (by omega) (fun g hg => by omega)
    clear hv8 hf8 ht8 hu8 D3 X3
    clear zb zr zp p0 p1 p2 p3 e0 e1 e2 e3 e4 e5 f0 f1 f2 f3 f4 f5 q0 q1 q2 q3 q4 q5 h0 h1 h2 h3 h4 h5
    obtain ⟨⟨zb, zr⟩, ⟨p0, p1, p2, p3⟩, ⟨e0, e1, e2, e3, e4, e5⟩, f0, f1, f2, f3, f4, f5⟩ := DrH.facts D8 hp
    obtain ⟨zp, ⟨q0, q1, q2, q3, q4, q5⟩, h0, h1, h2, h3, h4, h5⟩ := X8.out.facts
    clear hq8 hr8
    go_upto_region 18 with (fail)
    have DY : DrH w (w108.setCell ⟨w1.heap.size, 3, none⟩ (.int .i64 (r8 : Int))) p lo ad n c V t 204 B K ao co al cl ac cc := D8.out.turn HC.out HO.out (fr1 (Fr.refl _ _)) (fun x e => by omega)
    have XY : Hid (EBox (w108.setCell ⟨w1.heap.size, 3, none⟩ (.int .i64 (r8 : Int))) (w.heap.size + 2) w1.heap.size ⟨E.op, E.of_, E.holder, (r8 : Int), E.secs, E.text⟩ a1 c1) := X8.out.setKind _
    obtain ⟨Y2, hY⟩ : ∃ Y2, Y2 = (w108.setCell ⟨w1.heap.size, 3, none⟩ (.int .i64 (r8 : Int))) := ⟨_, rfl⟩
    rw [← hY] at DY XY ⊢
    clear hY D8 X8
    obtain ⟨DZ, hDZ⟩ : ∃ x, x = DY := ⟨_, rfl⟩
    obtain ⟨XZ, hXZ⟩ : ∃ x, x = XY := ⟨_, rfl⟩
    clear hDZ hXZ DY XY
    clear zb zr zp p0 p1 p2 p3 e0 e1 e2 e3 e4 e5 f0 f1 f2 f3 f4 f5 q0 q1 q2 q3 q4 q5 h0 h1 h2 h3 h4 h5
    obtain ⟨⟨zb, zr⟩, ⟨p0, p1, p2, p3⟩, ⟨e0, e1, e2, e3, e4, e5⟩, f0, f1, f2, f3, f4, f5⟩ := DrH.facts DZ hp
    obtain ⟨zp, ⟨q0, q1, q2, q3, q4, q5⟩, h0, h1, h2, h3, h4, h5⟩ := XZ.out.facts
    by_cases h199 : (199 : Int) ≤ (B.orders.length : Int)
    · skip
      go_upto_region 22 with (fail)
      have hCh : ((((((Y2.setCell ⟨w1.heap.size, 0, none⟩ (.int .i64 1)).setCell ⟨w1.heap.size, 1, none⟩ (.int .i64 0)).setCell ⟨w1.heap.size, 2, none⟩ (.string ⟨#[98, 111, 98]⟩)).setCell ⟨w1.heap.size, 3, none⟩ (.int .i64 2)).setCell ⟨w1.heap.size, 4, none⟩ (.slice (some ⟨Y2.heap.size, 0, none⟩) 1 1)).setCell ⟨w1.heap.size, 5, none⟩ (.string ⟨#[]⟩)) = (putE Y2 w1.heap.size (.int .i64 1) (.int .i64 0) (.string ⟨#[98, 111, 98]⟩) (.int .i64 2) (.slice (some ⟨Y2.heap.size, 0, none⟩) 1 1) (.string ⟨#[]⟩)) := rfl
      rw [hCh]
      clear hCh
      have DY : DrH w ((putE Y2 w1.heap.size (.int .i64 1) (.int .i64 0) (.string ⟨#[98, 111, 98]⟩) (.int .i64 2) (.slice (some ⟨Y2.heap.size, 0, none⟩) 1 1) (.string ⟨#[]⟩)).alloc (.cells #[.int .i64 1] 3)) p lo ad n c V t 204 B K ao co al cl ac cc := DZ.out.turn HC.out HO.out ((putE_fr _ _ _ _ _ _ _ _).trans (Fr.of_below (below1 _ _))) (fun x e => by omega)
      have XY : Hid (EBox ((putE Y2 w1.heap.size (.int .i64 1) (.int .i64 0) (.string ⟨#[98, 111, 98]⟩) (.int .i64 2) (.slice (some ⟨Y2.heap.size, 0, none⟩) 1 1) (.string ⟨#[]⟩)).alloc (.cells #[.int .i64 1] 3)) (w.heap.size + 2) w1.heap.size ⟨1, 0, ⟨#[98, 111, 98]⟩, 2, [1], ⟨#[]⟩⟩ (some ⟨Y2.heap.size, 0, none⟩) 1) := XZ.out.putNew (by omega)
      obtain ⟨Y, hY⟩ : ∃ Y, Y = ((putE Y2 w1.heap.size (.int .i64 1) (.int .i64 0) (.string ⟨#[98, 111, 98]⟩) (.int .i64 2) (.slice (some ⟨Y2.heap.size, 0, none⟩) 1 1) (.string ⟨#[]⟩)).alloc (.cells #[.int .i64 1] 3)) := ⟨_, rfl⟩
      rw [← hY] at DY XY ⊢
      clear hY DZ XZ 
      clear zb zr zp p0 p1 p2 p3 e0 e1 e2 e3 e4 e5 f0 f1 f2 f3 f4 f5 q0 q1 q2 q3 q4 q5 h0 h1 h2 h3 h4 h5
      obtain ⟨⟨zb, zr⟩, ⟨p0, p1, p2, p3⟩, ⟨e0, e1, e2, e3, e4, e5⟩, f0, f1, f2, f3, f4, f5⟩ := DrH.facts DY hp
      obtain ⟨zp, ⟨q0, q1, q2, q3, q4, q5⟩, h0, h1, h2, h3, h4, h5⟩ := XY.out.facts
      go_wp2
      refine bodyPost_ret (v := .agg #[.int .i64 (⟨1, 0, ⟨#[98, 111, 98]⟩, 2, [1], ⟨#[]⟩⟩ : Ev).op, .int .i64 (⟨1, 0, ⟨#[98, 111, 98]⟩, 2, [1], ⟨#[]⟩⟩ : Ev).of_, .string (⟨1, 0, ⟨#[98, 111, 98]⟩, 2, [1], ⟨#[]⟩⟩ : Ev).holder, .int .i64 (⟨1, 0, ⟨#[98, 111, 98]⟩, 2, [1], ⟨#[]⟩⟩ : Ev).kind, .slice (some ⟨Y2.heap.size, 0, none⟩) (⟨1, 0, ⟨#[98, 111, 98]⟩, 2, [1], ⟨#[]⟩⟩ : Ev).secs.length 1, .string (⟨1, 0, ⟨#[98, 111, 98]⟩, 2, [1], ⟨#[]⟩⟩ : Ev).text]) (by simp [results, Tryz.results55, go_sem, e0, e1, e2, e3, e4, e5]) rfl ?_
      have dn := DY.out.done HC.out (.int .i64 (⟨1, 0, ⟨#[98, 111, 98]⟩, 2, [1], ⟨#[]⟩⟩ : Ev).op) (.int .i64 (⟨1, 0, ⟨#[98, 111, 98]⟩, 2, [1], ⟨#[]⟩⟩ : Ev).of_) (.string (⟨1, 0, ⟨#[98, 111, 98]⟩, 2, [1], ⟨#[]⟩⟩ : Ev).holder) (.int .i64 (⟨1, 0, ⟨#[98, 111, 98]⟩, 2, [1], ⟨#[]⟩⟩ : Ev).kind) (.slice (some ⟨Y2.heap.size, 0, none⟩) (⟨1, 0, ⟨#[98, 111, 98]⟩, 2, [1], ⟨#[]⟩⟩ : Ev).secs.length 1) (.string (⟨1, 0, ⟨#[98, 111, 98]⟩, 2, [1], ⟨#[]⟩⟩ : Ev).text)
      exact ⟨⟨_, ⟨1, 0, ⟨#[98, 111, 98]⟩, 2, [1], ⟨#[]⟩⟩, rfl, ⟨_, rfl, owns_low (row_fr XY.out.own (putE_fr _ _ _ _ _ _ _ _) (by omega)) (by omega)⟩, ⟨by decide, by decide, by decide⟩⟩, dn.1.mono (by omega), dn.2⟩
    · skip
      go_upto_region 22 with (fail)
      have DY : DrH w Y2 p lo ad n c V t 204 B K ao co al cl ac cc := DZ.out.turn HC.out HO.out (Fr.refl (fun x => x = w1.heap.size) _) (fun x e => by omega)
      have XY : Hid (EBox Y2 (w.heap.size + 2) w1.heap.size ⟨E.op, E.of_, E.holder, (r8 : Int), E.secs, E.text⟩ a1 c1) := XZ
      obtain ⟨Y, hY⟩ : ∃ Y, Y = Y2 := ⟨_, rfl⟩
      rw [← hY] at DY XY ⊢
      clear hY DZ XZ 
      clear zb zr zp p0 p1 p2 p3 e0 e1 e2 e3 e4 e5 f0 f1 f2 f3 f4 f5 q0 q1 q2 q3 q4 q5 h0 h1 h2 h3 h4 h5
      obtain ⟨⟨zb, zr⟩, ⟨p0, p1, p2, p3⟩, ⟨e0, e1, e2, e3, e4, e5⟩, f0, f1, f2, f3, f4, f5⟩ := DrH.facts DY hp
      obtain ⟨zp, ⟨q0, q1, q2, q3, q4, q5⟩, h0, h1, h2, h3, h4, h5⟩ := XY.out.facts
      go_wp2
      refine bodyPost_ret (v := evV ⟨E.op, E.of_, E.holder, (r8 : Int), E.secs, E.text⟩ a1 c1) (by simp [evV, results, Tryz.results55, go_sem, e0, e1, e2, e3, e4, e5]) rfl ?_
      have dn := DY.out.doneV HC.out ⟨E.op, E.of_, E.holder, (r8 : Int), E.secs, E.text⟩ a1 c1
      exact ⟨⟨_, ⟨E.op, E.of_, E.holder, (r8 : Int), E.secs, E.text⟩, rfl, ⟨_, rfl, owns_low (row_fr XY.out.own (putE_fr _ _ _ _ _ _ _ _) (by omega)) (by omega)⟩, ⟨HS.out.odd.1, HS.out.odd.2.1, HS.out.odd.2.2⟩⟩, dn.1.mono (by omega), dn.2⟩
  · skip
    have hw2 : IntKind.i64.wrap (B.n + 2) = B.n + 2 := by have := hb.2; simp [IntKind.wrap, IntKind.signed, IntKind.bits]; omega
    go_upto_region 21 with (fail)
    refine wp_region_held_drew (S := (fun w' => w'.cell? ⟨w.heap.size, 0, none⟩ = some (.int .i64 B.n))) (by kernel_rfl) (by simp [go_sem, p0]) (fun hS0 => ?_)
    refine tk 0 rfl ?_; refine tk 2 rfl ?_; refine tk 3 rfl ?_; refine tk 4 rfl ?_; refine tk 5 rfl ?_
    refine wpAnyH_ready (rs := [1, 6]) (by kernel_rfl) (by simp) ?_
    refine AllReadyH.cons rfl (fun Kx hK => ?_) (AllReadyH.cons rfl (fun Kx hK => ?_) (AllReadyH.nil))
    · skip
      go_simp
      have DQ : DrH w w3.drew p lo ad n c V t 202 B K ao co al cl ac cc := D3.out.below (Below.refl _ _).drew
      have XQ : Hid (EBox w3.drew (w.heap.size + 2) w1.heap.size E a1 c1) := X3.out.below (Below.refl _ _).drew
      clear D3 X3
      clear zb zr zp p0 p1 p2 p3 e0 e1 e2 e3 e4 e5 f0 f1 f2 f3 f4 f5 q0 q1 q2 q3 q4 q5 h0 h1 h2 h3 h4 h5
      obtain ⟨⟨zb, zr⟩, ⟨p0, p1, p2, p3⟩, ⟨e0, e1, e2, e3, e4, e5⟩, f0, f1, f2, f3, f4, f5⟩ := DrH.facts DQ hp
      obtain ⟨zp, ⟨q0, q1, q2, q3, q4, q5⟩, h0, h1, h2, h3, h4, h5⟩ := XQ.out.facts
      refine hK.out _ _ hS0 (fun hS1 => ?_)
      clear hK Kx
      refine wpAnyH_ready (rs := [6]) (by kernel_rfl) (by simp) ?_
      refine AllReadyH.cons rfl (fun Kx hK => ?_) (AllReadyH.nil)
      go_simp
      try rw [hw2]
      obtain ⟨t9, ht9, hc9⟩ := DQ.out.cur
      refine (pick_any p ad n c V t9 (B.n + 2) _ (by omega) hn (by omega) hc9).mono ?_
      clear hc9
      rintro e w109 ⟨⟨r9, rfl, hq9, hr9⟩, ⟨u9, hu9, hv9⟩, hf9⟩
      have D9 : DrH w w109 p lo ad n c V t 204 B K ao co al cl ac cc := DQ.out.step hlo ⟨u9, by omega, hv9⟩ hf9
      have X9 : Hid (EBox w109 (w.heap.size + 2) w1.heap.size E a1 c1) := XQ.out.fr hf9 (by omega) (fun g hg => by omega)
      clear hv9 hf9 ht9 hu9 DQ XQ
      clear zb zr zp p0 p1 p2 p3 e0 e1 e2 e3 e4 e5 f0 f1 f2 f3 f4 f5 q0 q1 q2 q3 q4 q5 h0 h1 h2 h3 h4 h5
      obtain ⟨⟨zb, zr⟩, ⟨p0, p1, p2, p3⟩, ⟨e0, e1, e2, e3, e4, e5⟩, f0, f1, f2, f3, f4, f5⟩ := DrH.facts D9 hp
      obtain ⟨zp, ⟨q0, q1, q2, q3, q4, q5⟩, h0, h1, h2, h3, h4, h5⟩ := X9.out.facts
      refine hK.out _ _ p0 (fun hS2 => ?_)
      clear hK Kx hq9 hr9
      refine tk 7 rfl ?_
      generalize IntKind.i64.wrap ((r9 : Int) - 1) = z8
      refine wpAnyH_ready (rs := [8]) (by kernel_rfl) (by simp) ?_
      refine AllReadyH.cons rfl (fun Kx hK => ?_) (AllReadyH.nil)
      go_simp
      have bq := (below1 w109 (.cells #[.int .i64 z8] 3))
      have DA : DrH w (w109.alloc (.cells #[.int .i64 z8] 3)) p lo ad n c V t 204 B K ao co al cl ac cc := D9.out.below bq
      have XA : Hid (EBox (w109.alloc (.cells #[.int .i64 z8] 3)) (w.heap.size + 2) w1.heap.size E a1 c1) := X9.out.below bq
      have xa : (w109.alloc (.cells #[.int .i64 z8] 3)).heap[w109.heap.size]? = some (.cells #[.int .i64 z8] 3 (0, 0)) := Deep.blk_alloc_new _ _
      have za : w109.heap.size < (w109.alloc (.cells #[.int .i64 z8] 3)).heap.size := by simp
      have zw9 : w1.heap.size < w109.heap.size := zp
      obtain ⟨WA, hWq⟩ : ∃ x, x = (w109.alloc (.cells #[.int .i64 z8] 3)) := ⟨_, rfl⟩
      rw [← hWq] at DA XA xa za ⊢
      clear hWq bq D9 X9
      clear zb zr zp p0 p1 p2 p3 e0 e1 e2 e3 e4 e5 f0 f1 f2 f3 f4 f5 q0 q1 q2 q3 q4 q5 h0 h1 h2 h3 h4 h5
      obtain ⟨⟨zb, zr⟩, ⟨p0, p1, p2, p3⟩, ⟨e0, e1, e2, e3, e4, e5⟩, f0, f1, f2, f3, f4, f5⟩ := DrH.facts DA hp
      obtain ⟨zp, ⟨q0, q1, q2, q3, q4, q5⟩, h0, h1, h2, h3, h4, h5⟩ := XA.out.facts
      refine hK.out _ _ p0 (fun hS3 => ?_)
      clear hK Kx
      have hs20 : E.secs.length ≤ 20 := HS.out.2.2
      have n4 : ∀ j u', [Value.int .i64 z8][j]? = some u' → WA.cell? ((⟨w109.heap.size, 0, none⟩ : Addr).add j) = some u' := by
        intro j u' hu
        rw [add0]
        refine cell_of_box xa ?_
        rw [← Array.getElem?_toList]
        exact hu
      refine wpAnyH_ready (rs := [9]) (by kernel_rfl) (by simp) ?_
      refine AllReadyH.cons rfl (fun Kx hK => ?_) (AllReadyH.nil)
      refine wp_append_row _ _ 30 rfl (w.heap.size + 2) 3 i0 _ 1 8 Tryz.underlying30 hi hz0 hz1 hz2 rfl (by decide) (.slice a1 E.secs.length c1) E.secs.length (E.secs.map (Value.int .i64)) rfl XA.out.own ⟨w109.heap.size, 0, none⟩ 1 1 [.int .i64 z8] rfl rfl n4 ?_ (by unfold maxLen; omega) (by omega) (by omega) ?_
      · intro x hx
        simp only [List.mem_singleton] at hx
        subst hx
        rfl
      intro vU wU hownU hgU _ hbU
      obtain ⟨L, hL, hL21⟩ : ∃ L : List Int, L = E.secs ++ [z8] ∧ L.length ≤ 21 := ⟨_, rfl, by simp; omega⟩
      have hownL : wU.ownsRow (w.heap.size + 2) 3 1 vU L.length (L.map (Value.int .i64)) := by rw [hL]; simpa using hownU
      obtain ⟨gU, aU, cU, rfl, -⟩ := ownL_of hownL
      have fU : Fr (fun x => (Value.slice a1 E.secs.length c1).ownBlock = some x) WA wU := ⟨hgU.os, hgU.tape, hgU.output, hgU.size, fun j hj hn' => hgU.block j hj (fun e => hn' e.symm)⟩
      have DU : DrH w wU p lo ad n c V t 204 B K ao co al cl ac cc := DA.out.turn HC.out HO.out fU (fun x e => (owns_lt XA.out.own e).1)
      have xU := (fU.block _ zp (fun e => XA.out.ne _ e rfl)).trans XA.out.box
      have neU : ∀ g, (Value.slice aU L.length cU).ownBlock = some g → g ≠ w1.heap.size := fun g hg e => by
        rcases hbU with q | q
        · rw [q] at hg; exact XA.out.ne g hg e
        · rw [q] at hg; have := Option.some.inj hg; omega
      have XU : Hid (EBox (wU.setCell ⟨w1.heap.size, 4, none⟩ (.slice aU L.length cU)) (w.heap.size + 2) w1.heap.size ⟨E.op, E.of_, E.holder, E.kind, L, E.text⟩ aU cU) := EBox.setSecs xU L aU cU hownL neU
      have o0 := (box_cells (DU.out.boxes hp).1).1
      obtain ⟨-, -, -, -, o4, -⟩ := ev_cells xU
      have u4 : wU.frozen? ⟨w1.heap.size, 4, none⟩ = false := frozen_of_box xU
      have zU : w1.heap.size < wU.heap.size := (Array.getElem?_eq_some_iff.1 xU).1
      clear hownU hgU hbU hownL fU neU xU hL n4 DA XA xa za zb zr zp p0 p1 p2 p3 e0 e1 e2 e3 e4 e5 f0 f1 f2 f3 f4 f5 q0 q1 q2 q3 q4 q5 h0 h1 h2 h3 h4 h5
      refine hK.out _ _ o0 (fun hS9 => ?_)
      clear hK Kx hS9
      refine tk 10 rfl ?_
      refine wpAnyH_ready (rs := [11]) (by kernel_rfl) (by simp) ?_
      refine AllReadyH.cons rfl (fun Kx hK => ?_) (AllReadyH.nil)
      go_simp
      refine hK.out _ _ ((cell_other (by omega)).trans o0) (fun hS9 => ?_)
      clear hK Kx hS9
      refine wpAnyH_done (by kernel_rfl) ?_ _
      go_simp
      go_upto_region 22 with (fail)
      have DY : DrH w (wU.setCell ⟨w1.heap.size, 4, none⟩ (.slice aU L.length cU)) p lo ad n c V t 204 B K ao co al cl ac cc := DU.out.turn HC.out HO.out (fr1 (Fr.refl _ _)) (fun x e => by omega)
      have XY : Hid (EBox (wU.setCell ⟨w1.heap.size, 4, none⟩ (.slice aU L.length cU)) (w.heap.size + 2) w1.heap.size ⟨E.op, E.of_, E.holder, E.kind, L, E.text⟩ aU cU) := XU
      obtain ⟨Y, hY⟩ : ∃ Y, Y = (wU.setCell ⟨w1.heap.size, 4, none⟩ (.slice aU L.length cU)) := ⟨_, rfl⟩
      rw [← hY] at DY XY ⊢
      clear hY DU XU o0 o4 u4
      obtain ⟨⟨zb, zr⟩, ⟨p0, p1, p2, p3⟩, ⟨e0, e1, e2, e3, e4, e5⟩, f0, f1, f2, f3, f4, f5⟩ := DrH.facts DY hp
      obtain ⟨zp, ⟨q0, q1, q2, q3, q4, q5⟩, h0, h1, h2, h3, h4, h5⟩ := XY.out.facts
      go_wp2
      refine bodyPost_ret (v := evV ⟨E.op, E.of_, E.holder, E.kind, L, E.text⟩ aU cU) (by simp [evV, results, Tryz.results55, go_sem, e0, e1, e2, e3, e4, e5]) rfl ?_
      have dn := DY.out.doneV HC.out ⟨E.op, E.of_, E.holder, E.kind, L, E.text⟩ aU cU
      exact ⟨⟨_, ⟨E.op, E.of_, E.holder, E.kind, L, E.text⟩, rfl, ⟨_, rfl, owns_low (row_fr XY.out.own (putE_fr _ _ _ _ _ _ _ _) (by omega)) (by omega)⟩, ⟨HS.out.odd.1, HS.out.odd.2.1, hL21⟩⟩, dn.1.mono (by omega), dn.2⟩
    · skip
      go_simp
      have DQ : DrH w w3.drew p lo ad n c V t 202 B K ao co al cl ac cc := D3.out.below (Below.refl _ _).drew
      have XQ : Hid (EBox w3.drew (w.heap.size + 2) w1.heap.size E a1 c1) := X3.out.below (Below.refl _ _).drew
      clear D3 X3
      try rw [hw2]
      obtain ⟨t10, ht10, hc10⟩ := DQ.out.cur
      refine (pick_any p ad n c V t10 (B.n + 2) _ (by omega) hn (by omega) hc10).mono ?_
      clear hc10
      rintro e w110 ⟨⟨r10, rfl, hq10, hr10⟩, ⟨u10, hu10, hv10⟩, hf10⟩
      have D10 : DrH w w110 p lo ad n c V t 204 B K ao co al cl ac cc := DQ.out.step hlo ⟨u10, by omega, hv10⟩ hf10
      have X10 : Hid (EBox w110 (w.heap.size + 2) w1.heap.size E a1 c1) := XQ.out.fr hf10 (by omega) (fun g hg => by omega)
      clear hv10 hf10 ht10 hu10 DQ XQ
      clear zb zr zp p0 p1 p2 p3 e0 e1 e2 e3 e4 e5 f0 f1 f2 f3 f4 f5 q0 q1 q2 q3 q4 q5 h0 h1 h2 h3 h4 h5
      obtain ⟨⟨zb, zr⟩, ⟨p0, p1, p2, p3⟩, ⟨e0, e1, e2, e3, e4, e5⟩, f0, f1, f2, f3, f4, f5⟩ := DrH.facts D10 hp
      obtain ⟨zp, ⟨q0, q1, q2, q3, q4, q5⟩, h0, h1, h2, h3, h4, h5⟩ := X10.out.facts
      refine hK.out _ _ p0 (fun hS2 => ?_)
      clear hK Kx hq10 hr10
      refine tk 7 rfl ?_
      generalize IntKind.i64.wrap ((r10 : Int) - 1) = z8
      refine wpAnyH_ready (rs := [1, 8]) (by kernel_rfl) (by simp) ?_
      refine AllReadyH.cons rfl (fun Kx hK => ?_) (AllReadyH.cons rfl (fun Kx hK => ?_) (AllReadyH.nil))
      · skip
        go_simp
        refine hK.out _ _ p0 (fun hS4 => ?_)
        clear hK Kx
        refine wpAnyH_ready (rs := [8]) (by kernel_rfl) (by simp) ?_
        refine AllReadyH.cons rfl (fun Kx hK => ?_) (AllReadyH.nil)
        go_simp
        have bq := (below1 w110 (.cells #[.int .i64 z8] 3))
        have DA : DrH w (w110.alloc (.cells #[.int .i64 z8] 3)) p lo ad n c V t 204 B K ao co al cl ac cc := D10.out.below bq
        have XA : Hid (EBox (w110.alloc (.cells #[.int .i64 z8] 3)) (w.heap.size + 2) w1.heap.size E a1 c1) := X10.out.below bq
        have xa : (w110.alloc (.cells #[.int .i64 z8] 3)).heap[w110.heap.size]? = some (.cells #[.int .i64 z8] 3 (0, 0)) := Deep.blk_alloc_new _ _
        have za : w110.heap.size < (w110.alloc (.cells #[.int .i64 z8] 3)).heap.size := by simp
        have zw9 : w1.heap.size < w110.heap.size := zp
        obtain ⟨WA, hWq⟩ : ∃ x, x = (w110.alloc (.cells #[.int .i64 z8] 3)) := ⟨_, rfl⟩
        rw [← hWq] at DA XA xa za ⊢
        clear hWq bq D10 X10
        clear zb zr zp p0 p1 p2 p3 e0 e1 e2 e3 e4 e5 f0 f1 f2 f3 f4 f5 q0 q1 q2 q3 q4 q5 h0 h1 h2 h3 h4 h5
        obtain ⟨⟨zb, zr⟩, ⟨p0, p1, p2, p3⟩, ⟨e0, e1, e2, e3, e4, e5⟩, f0, f1, f2, f3, f4, f5⟩ := DrH.facts DA hp
        obtain ⟨zp, ⟨q0, q1, q2, q3, q4, q5⟩, h0, h1, h2, h3, h4, h5⟩ := XA.out.facts
        refine hK.out _ _ p0 (fun hS3 => ?_)
        clear hK Kx
        have hs20 : E.secs.length ≤ 20 := HS.out.2.2
        have n4 : ∀ j u', [Value.int .i64 z8][j]? = some u' → WA.cell? ((⟨w110.heap.size, 0, none⟩ : Addr).add j) = some u' := by
          intro j u' hu
          rw [add0]
          refine cell_of_box xa ?_
          rw [← Array.getElem?_toList]
          exact hu
        refine wpAnyH_ready (rs := [9]) (by kernel_rfl) (by simp) ?_
        refine AllReadyH.cons rfl (fun Kx hK => ?_) (AllReadyH.nil)
        refine wp_append_row _ _ 30 rfl (w.heap.size + 2) 3 i0 _ 1 8 Tryz.underlying30 hi hz0 hz1 hz2 rfl (by decide) (.slice a1 E.secs.length c1) E.secs.length (E.secs.map (Value.int .i64)) rfl XA.out.own ⟨w110.heap.size, 0, none⟩ 1 1 [.int .i64 z8] rfl rfl n4 ?_ (by unfold maxLen; omega) (by omega) (by omega) ?_
        · intro x hx
          simp only [List.mem_singleton] at hx
          subst hx
          rfl
        intro vU wU hownU hgU _ hbU
        obtain ⟨L, hL, hL21⟩ : ∃ L : List Int, L = E.secs ++ [z8] ∧ L.length ≤ 21 := ⟨_, rfl, by simp; omega⟩
        have hownL : wU.ownsRow (w.heap.size + 2) 3 1 vU L.length (L.map (Value.int .i64)) := by rw [hL]; simpa using hownU
        obtain ⟨gU, aU, cU, rfl, -⟩ := ownL_of hownL
        have fU : Fr (fun x => (Value.slice a1 E.secs.length c1).ownBlock = some x) WA wU := ⟨hgU.os, hgU.tape, hgU.output, hgU.size, fun j hj hn' => hgU.block j hj (fun e => hn' e.symm)⟩
        have DU : DrH w wU p lo ad n c V t 204 B K ao co al cl ac cc := DA.out.turn HC.out HO.out fU (fun x e => (owns_lt XA.out.own e).1)
        have xU := (fU.block _ zp (fun e => XA.out.ne _ e rfl)).trans XA.out.box
        have neU : ∀ g, (Value.slice aU L.length cU).ownBlock = some g → g ≠ w1.heap.size := fun g hg e => by
          rcases hbU with q | q
          · rw [q] at hg; exact XA.out.ne g hg e
          · rw [q] at hg; have := Option.some.inj hg; omega
        have XU : Hid (EBox (wU.setCell ⟨w1.heap.size, 4, none⟩ (.slice aU L.length cU)) (w.heap.size + 2) w1.heap.size ⟨E.op, E.of_, E.holder, E.kind, L, E.text⟩ aU cU) := EBox.setSecs xU L aU cU hownL neU
        have o0 := (box_cells (DU.out.boxes hp).1).1
        obtain ⟨-, -, -, -, o4, -⟩ := ev_cells xU
        have u4 : wU.frozen? ⟨w1.heap.size, 4, none⟩ = false := frozen_of_box xU
        have zU : w1.heap.size < wU.heap.size := (Array.getElem?_eq_some_iff.1 xU).1
        clear hownU hgU hbU hownL fU neU xU hL n4 DA XA xa za zb zr zp p0 p1 p2 p3 e0 e1 e2 e3 e4 e5 f0 f1 f2 f3 f4 f5 q0 q1 q2 q3 q4 q5 h0 h1 h2 h3 h4 h5
        refine hK.out _ _ o0 (fun hS9 => ?_)
        clear hK Kx hS9
        refine tk 10 rfl ?_
        refine wpAnyH_ready (rs := [11]) (by kernel_rfl) (by simp) ?_
        refine AllReadyH.cons rfl (fun Kx hK => ?_) (AllReadyH.nil)
        go_simp
        refine hK.out _ _ ((cell_other (by omega)).trans o0) (fun hS9 => ?_)
        clear hK Kx hS9
        refine wpAnyH_done (by kernel_rfl) ?_ _
        go_simp
        go_upto_region 22 with (fail)
        have DY : DrH w (wU.setCell ⟨w1.heap.size, 4, none⟩ (.slice aU L.length cU)) p lo ad n c V t 204 B K ao co al cl ac cc := DU.out.turn HC.out HO.out (fr1 (Fr.refl _ _)) (fun x e => by omega)
        have XY : Hid (EBox (wU.setCell ⟨w1.heap.size, 4, none⟩ (.slice aU L.length cU)) (w.heap.size + 2) w1.heap.size ⟨E.op, E.of_, E.holder, E.kind, L, E.text⟩ aU cU) := XU
        obtain ⟨Y, hY⟩ : ∃ Y, Y = (wU.setCell ⟨w1.heap.size, 4, none⟩ (.slice aU L.length cU)) := ⟨_, rfl⟩
        rw [← hY] at DY XY ⊢
        clear hY DU XU o0 o4 u4
        obtain ⟨⟨zb, zr⟩, ⟨p0, p1, p2, p3⟩, ⟨e0, e1, e2, e3, e4, e5⟩, f0, f1, f2, f3, f4, f5⟩ := DrH.facts DY hp
        obtain ⟨zp, ⟨q0, q1, q2, q3, q4, q5⟩, h0, h1, h2, h3, h4, h5⟩ := XY.out.facts
        go_wp2
        refine bodyPost_ret (v := evV ⟨E.op, E.of_, E.holder, E.kind, L, E.text⟩ aU cU) (by simp [evV, results, Tryz.results55, go_sem, e0, e1, e2, e3, e4, e5]) rfl ?_
        have dn := DY.out.doneV HC.out ⟨E.op, E.of_, E.holder, E.kind, L, E.text⟩ aU cU
        exact ⟨⟨_, ⟨E.op, E.of_, E.holder, E.kind, L, E.text⟩, rfl, ⟨_, rfl, owns_low (row_fr XY.out.own (putE_fr _ _ _ _ _ _ _ _) (by omega)) (by omega)⟩, ⟨HS.out.odd.1, HS.out.odd.2.1, hL21⟩⟩, dn.1.mono (by omega), dn.2⟩
      · skip
        go_simp
        have bq := (below1 w110 (.cells #[.int .i64 z8] 3))
        have DA : DrH w (w110.alloc (.cells #[.int .i64 z8] 3)) p lo ad n c V t 204 B K ao co al cl ac cc := D10.out.below bq
        have XA : Hid (EBox (w110.alloc (.cells #[.int .i64 z8] 3)) (w.heap.size + 2) w1.heap.size E a1 c1) := X10.out.below bq
        have xa : (w110.alloc (.cells #[.int .i64 z8] 3)).heap[w110.heap.size]? = some (.cells #[.int .i64 z8] 3 (0, 0)) := Deep.blk_alloc_new _ _
        have za : w110.heap.size < (w110.alloc (.cells #[.int .i64 z8] 3)).heap.size := by simp
        have zw9 : w1.heap.size < w110.heap.size := zp
        obtain ⟨WA, hWq⟩ : ∃ x, x = (w110.alloc (.cells #[.int .i64 z8] 3)) := ⟨_, rfl⟩
        rw [← hWq] at DA XA xa za ⊢
        clear hWq bq D10 X10
        clear zb zr zp p0 p1 p2 p3 e0 e1 e2 e3 e4 e5 f0 f1 f2 f3 f4 f5 q0 q1 q2 q3 q4 q5 h0 h1 h2 h3 h4 h5
        obtain ⟨⟨zb, zr⟩, ⟨p0, p1, p2, p3⟩, ⟨e0, e1, e2, e3, e4, e5⟩, f0, f1, f2, f3, f4, f5⟩ := DrH.facts DA hp
        obtain ⟨zp, ⟨q0, q1, q2, q3, q4, q5⟩, h0, h1, h2, h3, h4, h5⟩ := XA.out.facts
        refine hK.out _ _ p0 (fun hS3 => ?_)
        clear hK Kx
        refine wpAnyH_ready (rs := [1]) (by kernel_rfl) (by simp) ?_
        refine AllReadyH.cons rfl (fun Kx hK => ?_) (AllReadyH.nil)
        go_simp
        refine hK.out _ _ p0 (fun hS4 => ?_)
        clear hK Kx
        have hs20 : E.secs.length ≤ 20 := HS.out.2.2
        have n4 : ∀ j u', [Value.int .i64 z8][j]? = some u' → WA.cell? ((⟨w110.heap.size, 0, none⟩ : Addr).add j) = some u' := by
          intro j u' hu
          rw [add0]
          refine cell_of_box xa ?_
          rw [← Array.getElem?_toList]
          exact hu
        refine wpAnyH_ready (rs := [9]) (by kernel_rfl) (by simp) ?_
        refine AllReadyH.cons rfl (fun Kx hK => ?_) (AllReadyH.nil)
        refine wp_append_row _ _ 30 rfl (w.heap.size + 2) 3 i0 _ 1 8 Tryz.underlying30 hi hz0 hz1 hz2 rfl (by decide) (.slice a1 E.secs.length c1) E.secs.length (E.secs.map (Value.int .i64)) rfl XA.out.own ⟨w110.heap.size, 0, none⟩ 1 1 [.int .i64 z8] rfl rfl n4 ?_ (by unfold maxLen; omega) (by omega) (by omega) ?_
        · intro x hx
          simp only [List.mem_singleton] at hx
          subst hx
          rfl
        intro vU wU hownU hgU _ hbU
        obtain ⟨L, hL, hL21⟩ : ∃ L : List Int, L = E.secs ++ [z8] ∧ L.length ≤ 21 := ⟨_, rfl, by simp; omega⟩
        have hownL : wU.ownsRow (w.heap.size + 2) 3 1 vU L.length (L.map (Value.int .i64)) := by rw [hL]; simpa using hownU
        obtain ⟨gU, aU, cU, rfl, -⟩ := ownL_of hownL
        have fU : Fr (fun x => (Value.slice a1 E.secs.length c1).ownBlock = some x) WA wU := ⟨hgU.os, hgU.tape, hgU.output, hgU.size, fun j hj hn' => hgU.block j hj (fun e => hn' e.symm)⟩
        have DU : DrH w wU p lo ad n c V t 204 B K ao co al cl ac cc := DA.out.turn HC.out HO.out fU (fun x e => (owns_lt XA.out.own e).1)
        have xU := (fU.block _ zp (fun e => XA.out.ne _ e rfl)).trans XA.out.box
        have neU : ∀ g, (Value.slice aU L.length cU).ownBlock = some g → g ≠ w1.heap.size := fun g hg e => by
          rcases hbU with q | q
          · rw [q] at hg; exact XA.out.ne g hg e
          · rw [q] at hg; have := Option.some.inj hg; omega
        have XU : Hid (EBox (wU.setCell ⟨w1.heap.size, 4, none⟩ (.slice aU L.length cU)) (w.heap.size + 2) w1.heap.size ⟨E.op, E.of_, E.holder, E.kind, L, E.text⟩ aU cU) := EBox.setSecs xU L aU cU hownL neU
        have o0 := (box_cells (DU.out.boxes hp).1).1
        obtain ⟨-, -, -, -, o4, -⟩ := ev_cells xU
        have u4 : wU.frozen? ⟨w1.heap.size, 4, none⟩ = false := frozen_of_box xU
        have zU : w1.heap.size < wU.heap.size := (Array.getElem?_eq_some_iff.1 xU).1
        clear hownU hgU hbU hownL fU neU xU hL n4 DA XA xa za zb zr zp p0 p1 p2 p3 e0 e1 e2 e3 e4 e5 f0 f1 f2 f3 f4 f5 q0 q1 q2 q3 q4 q5 h0 h1 h2 h3 h4 h5
        refine hK.out _ _ o0 (fun hS9 => ?_)
        clear hK Kx hS9
        refine tk 10 rfl ?_
        refine wpAnyH_ready (rs := [11]) (by kernel_rfl) (by simp) ?_
        refine AllReadyH.cons rfl (fun Kx hK => ?_) (AllReadyH.nil)
        go_simp
        refine hK.out _ _ ((cell_other (by omega)).trans o0) (fun hS9 => ?_)
        clear hK Kx hS9
        refine wpAnyH_done (by kernel_rfl) ?_ _
        go_simp
        go_upto_region 22 with (fail)
        have DY : DrH w (wU.setCell ⟨w1.heap.size, 4, none⟩ (.slice aU L.length cU)) p lo ad n c V t 204 B K ao co al cl ac cc := DU.out.turn HC.out HO.out (fr1 (Fr.refl _ _)) (fun x e => by omega)
        have XY : Hid (EBox (wU.setCell ⟨w1.heap.size, 4, none⟩ (.slice aU L.length cU)) (w.heap.size + 2) w1.heap.size ⟨E.op, E.of_, E.holder, E.kind, L, E.text⟩ aU cU) := XU
        obtain ⟨Y, hY⟩ : ∃ Y, Y = (wU.setCell ⟨w1.heap.size, 4, none⟩ (.slice aU L.length cU)) := ⟨_, rfl⟩
        rw [← hY] at DY XY ⊢
        clear hY DU XU o0 o4 u4
        obtain ⟨⟨zb, zr⟩, ⟨p0, p1, p2, p3⟩, ⟨e0, e1, e2, e3, e4, e5⟩, f0, f1, f2, f3, f4, f5⟩ := DrH.facts DY hp
        obtain ⟨zp, ⟨q0, q1, q2, q3, q4, q5⟩, h0, h1, h2, h3, h4, h5⟩ := XY.out.facts
        go_wp2
        refine bodyPost_ret (v := evV ⟨E.op, E.of_, E.holder, E.kind, L, E.text⟩ aU cU) (by simp [evV, results, Tryz.results55, go_sem, e0, e1, e2, e3, e4, e5]) rfl ?_
        have dn := DY.out.doneV HC.out ⟨E.op, E.of_, E.holder, E.kind, L, E.text⟩ aU cU
        exact ⟨⟨_, ⟨E.op, E.of_, E.holder, E.kind, L, E.text⟩, rfl, ⟨_, rfl, owns_low (row_fr XY.out.own (putE_fr _ _ _ _ _ _ _ _) (by omega)) (by omega)⟩, ⟨HS.out.odd.1, HS.out.odd.2.1, hL21⟩⟩, dn.1.mono (by omega), dn.2⟩
  · skip
    go_wp2_with fail
    obtain ⟨t11, ht11, hc11⟩ := D3.out.cur
    refine (pick_any p ad n c V t11 3 _ (by omega) hn (by omega) hc11).mono ?_
    clear hc11
    rintro e w111 ⟨⟨r11, rfl, hq11, hr11⟩, ⟨u11, hu11, hv11⟩, hf11⟩
    have D11 : DrH w w111 p lo ad n c V t 204 B K ao co al cl ac cc := D3.out.step hlo ⟨u11, by omega, hv11⟩ hf11
    have X11 : Hid (EBox w111 (w.heap.size + 2) w1.heap.size E a1 c1) := X3.out.fr hf11 (by omega) (fun g hg => by omega)
    clear hv11 hf11 ht11 hu11 D3 X3
    clear zb zr zp p0 p1 p2 p3 e0 e1 e2 e3 e4 e5 f0 f1 f2 f3 f4 f5 q0 q1 q2 q3 q4 q5 h0 h1 h2 h3 h4 h5
    obtain ⟨⟨zb, zr⟩, ⟨p0, p1, p2, p3⟩, ⟨e0, e1, e2, e3, e4, e5⟩, f0, f1, f2, f3, f4, f5⟩ := DrH.facts D11 hp
    obtain ⟨zp, ⟨q0, q1, q2, q3, q4, q5⟩, h0, h1, h2, h3, h4, h5⟩ := X11.out.facts
    have b3 : r11 < 3 := by have := hr11 (by omega); omega
    clear hq11 hr11
    have HX : Hid ((Dr w ((w.alloc (.cells #[.int .i64 B.n, .slice ao B.orders.length co, .slice al B.locked.length cl, .slice ac B.occ.length cc] 37)).alloc (.cells #[.int .i64 0, .int .i64 0, .string ⟨#[]⟩, .int .i64 0, .slice none 0 0, .string ⟨#[]⟩] 32)) w111 p lo ad n c V t 204 (.agg #[.int .i64 B.n, .slice ao B.orders.length co, .slice al B.locked.length cl, .slice ac B.occ.length cc]) B K) ∧ EBox w111 (w.heap.size + 2) w1.heap.size E a1 c1) := ⟨D11.out, X11.out⟩
    go_wp2
    clear zb zr zp p0 p1 p2 p3 e0 e1 e2 e3 e4 e5 f0 f1 f2 f3 f4 f5 q0 q1 q2 q3 q4 q5 h0 h1 h2 h3 h4 h5 D11 X11
    go_loopw [] (fun wr => ∃ E2 : Ev, EBox wr (w.heap.size + 2) w1.heap.size E2 a1 c1 ∧ SmallO E2 ∧ (Dr w ((w.alloc (.cells #[.int .i64 B.n, .slice ao B.orders.length co, .slice al B.locked.length cl, .slice ac B.occ.length cc] 37)).alloc (.cells #[.int .i64 0, .int .i64 0, .string ⟨#[]⟩, .int .i64 0, .slice none 0 0, .string ⟨#[]⟩] 32)) wr p lo ad n c V t 204 (.agg #[.int .i64 B.n, .slice ao B.orders.length co, .slice al B.locked.length cl, .slice ac B.occ.length cc]) B K)) (fun wr => 201 - txtLen wr w1.heap.size)
    case atStart => exact ⟨E, HX.out.2, HS.out.odd, HX.out.1⟩
    case round =>
      obtain ⟨E2, hx, hs2, hd⟩ := hrel
      clear HX
      have DR_ : DrH w wr p lo ad n c V t 204 B K ao co al cl ac cc := hd
      have XR : Hid (EBox wr (w.heap.size + 2) w1.heap.size E2 a1 c1) := hx
      have HS2 : Hid (SmallO E2) := hs2
      clear hx hs2 hd
      obtain ⟨⟨zb, zr⟩, ⟨p0, p1, p2, p3⟩, ⟨e0, e1, e2, e3, e4, e5⟩, f0, f1, f2, f3, f4, f5⟩ := DrH.facts DR_ hp
      obtain ⟨zp, ⟨q0, q1, q2, q3, q4, q5⟩, h0, h1, h2, h3, h4, h5⟩ := XR.out.facts
      by_cases hlt : (E2.text.size : Int) < 199 + (r11 : Int)
      · have hadd := fun W => run_string_add_sum (P := Tryz.prog) W E2.text ⟨#[116]⟩ (by have : (ByteArray.mk #[116]).size = 1 := rfl; omega)
        have lz : (E2.text ++ ⟨#[116]⟩ : ByteArray).size = E2.text.size + 1 := by rw [ByteArray.size_append]; rfl
        go_wp2
        go_roundw
        case rel => exact ⟨_, XR.out.setText _, ⟨HS2.out.1, (by show (E2.text ++ ⟨#[116]⟩ : ByteArray).size ≤ 400; omega), HS2.out.2.2⟩, DR_.out.turn HC.out HO.out (fr1 (Fr.refl _ _)) (fun x e => by omega)⟩
        case measure =>
          rw [XR.out.txt, (XR.out.setText (E2.text ++ ⟨#[116]⟩)).txt]
          show 201 - (E2.text ++ ⟨#[116]⟩ : ByteArray).size < _
          omega
      · skip
        go_wp2_with fail
        obtain ⟨t12, ht12, hc12⟩ := DR_.out.cur
        refine (pick_any p ad n c V t12 2 _ (by omega) hn (by omega) hc12).mono ?_
        clear hc12
        rintro e w112 ⟨⟨r12, rfl, hq12, hr12⟩, ⟨u12, hu12, hv12⟩, hf12⟩
        have D12 : DrH w w112 p lo ad n c V t 206 B K ao co al cl ac cc := DR_.out.step hlo ⟨u12, by omega, hv12⟩ hf12
        have X12 : Hid (EBox w112 (w.heap.size + 2) w1.heap.size E2 a1 c1) := XR.out.fr hf12 (by omega) (fun g hg => by omega)
        clear hv12 hf12 ht12 hu12 DR_ XR
        clear zb zr zp p0 p1 p2 p3 e0 e1 e2 e3 e4 e5 f0 f1 f2 f3 f4 f5 q0 q1 q2 q3 q4 q5 h0 h1 h2 h3 h4 h5
        obtain ⟨⟨zb, zr⟩, ⟨p0, p1, p2, p3⟩, ⟨e0, e1, e2, e3, e4, e5⟩, f0, f1, f2, f3, f4, f5⟩ := DrH.facts D12 hp
        obtain ⟨zp, ⟨q0, q1, q2, q3, q4, q5⟩, h0, h1, h2, h3, h4, h5⟩ := X12.out.facts
        clear hq12 hr12 hlt
        by_cases hx : (r12 : Int) = 0
        · have tx : ((r12 : Int) == 0) = true := by simpa using hx
          clear hx
          go_upto_region 8 with (fail)
          have DY : DrH w (w112.setCell ⟨w1.heap.size, 5, none⟩ (.string ⟨#[97, 10, 98]⟩)) p lo ad n c V t 206 B K ao co al cl ac cc := D12.out.turn HC.out HO.out (fr1 (Fr.refl _ _)) (fun x e => by omega)
          have XY : Hid (EBox (w112.setCell ⟨w1.heap.size, 5, none⟩ (.string ⟨#[97, 10, 98]⟩)) (w.heap.size + 2) w1.heap.size ⟨E2.op, E2.of_, E2.holder, E2.kind, E2.secs, ⟨#[97, 10, 98]⟩⟩ a1 c1) := X12.out.setText _
          obtain ⟨Y2, hY⟩ : ∃ Y2, Y2 = (w112.setCell ⟨w1.heap.size, 5, none⟩ (.string ⟨#[97, 10, 98]⟩)) := ⟨_, rfl⟩
          rw [← hY] at DY XY ⊢
          clear hY D12 X12
          have DZ := DY
          have XZ := XY
          clear DY XY
          clear zb zr zp p0 p1 p2 p3 e0 e1 e2 e3 e4 e5 f0 f1 f2 f3 f4 f5 q0 q1 q2 q3 q4 q5 h0 h1 h2 h3 h4 h5
          obtain ⟨⟨zb, zr⟩, ⟨p0, p1, p2, p3⟩, ⟨e0, e1, e2, e3, e4, e5⟩, f0, f1, f2, f3, f4, f5⟩ := DrH.facts DZ hp
          obtain ⟨zp, ⟨q0, q1, q2, q3, q4, q5⟩, h0, h1, h2, h3, h4, h5⟩ := XZ.out.facts
          go_wp2_with fail
          obtain ⟨t13, ht13, hc13⟩ := DZ.out.cur
          refine (pick_any p ad n c V t13 2 _ (by omega) hn (by omega) hc13).mono ?_
          clear hc13
          rintro e w113 ⟨⟨r13, rfl, hq13, hr13⟩, ⟨u13, hu13, hv13⟩, hf13⟩
          have D13 : DrH w w113 p lo ad n c V t 208 B K ao co al cl ac cc := DZ.out.step hlo ⟨u13, by omega, hv13⟩ hf13
          have X13 : Hid (EBox w113 (w.heap.size + 2) w1.heap.size ⟨E2.op, E2.of_, E2.holder, E2.kind, E2.secs, ⟨#[97, 10, 98]⟩⟩ a1 c1) := XZ.out.fr hf13 (by omega) (fun g hg => by omega)
          clear hv13 hf13 ht13 hu13 DZ XZ
          clear zb zr zp p0 p1 p2 p3 e0 e1 e2 e3 e4 e5 f0 f1 f2 f3 f4 f5 q0 q1 q2 q3 q4 q5 h0 h1 h2 h3 h4 h5
          obtain ⟨⟨zb, zr⟩, ⟨p0, p1, p2, p3⟩, ⟨e0, e1, e2, e3, e4, e5⟩, f0, f1, f2, f3, f4, f5⟩ := DrH.facts D13 hp
          obtain ⟨zp, ⟨q0, q1, q2, q3, q4, q5⟩, h0, h1, h2, h3, h4, h5⟩ := X13.out.facts
          clear hq13 hr13
          by_cases hx : (r13 : Int) = 0
          · have tx : ((r13 : Int) == 0) = true := by simpa using hx
            clear hx
            go_upto_region 22 with (fail)
            have hCh : ((((((w113.setCell ⟨w1.heap.size, 0, none⟩ (.int .i64 3)).setCell ⟨w1.heap.size, 1, none⟩ (.int .i64 0)).setCell ⟨w1.heap.size, 2, none⟩ (.string ⟨#[97, 110, 110]⟩)).setCell ⟨w1.heap.size, 3, none⟩ (.int .i64 0)).setCell ⟨w1.heap.size, 4, none⟩ (.slice none 0 0)).setCell ⟨w1.heap.size, 5, none⟩ (.string (⟨E2.op, E2.of_, E2.holder, E2.kind, E2.secs, ⟨#[97, 10, 98]⟩⟩ : Ev).text)) = (putE w113 w1.heap.size (.int .i64 3) (.int .i64 0) (.string ⟨#[97, 110, 110]⟩) (.int .i64 0) (.slice none 0 0) (.string (⟨E2.op, E2.of_, E2.holder, E2.kind, E2.secs, ⟨#[97, 10, 98]⟩⟩ : Ev).text)) := rfl
            rw [hCh]
            clear hCh
            have DY : DrH w (putE w113 w1.heap.size (.int .i64 3) (.int .i64 0) (.string ⟨#[97, 110, 110]⟩) (.int .i64 0) (.slice none 0 0) (.string (⟨E2.op, E2.of_, E2.holder, E2.kind, E2.secs, ⟨#[97, 10, 98]⟩⟩ : Ev).text)) p lo ad n c V t 208 B K ao co al cl ac cc := D13.out.turn HC.out HO.out (putE_fr _ _ _ _ _ _ _ _) (fun x e => by omega)
            have XY : Hid (EBox (putE w113 w1.heap.size (.int .i64 3) (.int .i64 0) (.string ⟨#[97, 110, 110]⟩) (.int .i64 0) (.slice none 0 0) (.string (⟨E2.op, E2.of_, E2.holder, E2.kind, E2.secs, ⟨#[97, 10, 98]⟩⟩ : Ev).text)) (w.heap.size + 2) w1.heap.size ⟨3, 0, ⟨#[97, 110, 110]⟩, 0, [], (⟨E2.op, E2.of_, E2.holder, E2.kind, E2.secs, ⟨#[97, 10, 98]⟩⟩ : Ev).text⟩ none 0) := X13.out.put ⟨3, 0, ⟨#[97, 110, 110]⟩, 0, [], (⟨E2.op, E2.of_, E2.holder, E2.kind, E2.secs, ⟨#[97, 10, 98]⟩⟩ : Ev).text⟩ none 0 (World.ownsRow_nil _ _ _ _) (fun g hg => by cases hg)
            obtain ⟨Y, hY⟩ : ∃ Y, Y = (putE w113 w1.heap.size (.int .i64 3) (.int .i64 0) (.string ⟨#[97, 110, 110]⟩) (.int .i64 0) (.slice none 0 0) (.string (⟨E2.op, E2.of_, E2.holder, E2.kind, E2.secs, ⟨#[97, 10, 98]⟩⟩ : Ev).text)) := ⟨_, rfl⟩
            rw [← hY] at DY XY ⊢
            clear hY D13 X13 
            clear zb zr zp p0 p1 p2 p3 e0 e1 e2 e3 e4 e5 f0 f1 f2 f3 f4 f5 q0 q1 q2 q3 q4 q5 h0 h1 h2 h3 h4 h5
            obtain ⟨⟨zb, zr⟩, ⟨p0, p1, p2, p3⟩, ⟨e0, e1, e2, e3, e4, e5⟩, f0, f1, f2, f3, f4, f5⟩ := DrH.facts DY hp
            obtain ⟨zp, ⟨q0, q1, q2, q3, q4, q5⟩, h0, h1, h2, h3, h4, h5⟩ := XY.out.facts
            go_wp2
            refine bodyPost_ret (v := evV ⟨3, 0, ⟨#[97, 110, 110]⟩, 0, [], (⟨E2.op, E2.of_, E2.holder, E2.kind, E2.secs, ⟨#[97, 10, 98]⟩⟩ : Ev).text⟩ none 0) (by simp [evV, results, Tryz.results55, go_sem, e0, e1, e2, e3, e4, e5]) rfl ?_
            have dn := DY.out.doneV HC.out ⟨3, 0, ⟨#[97, 110, 110]⟩, 0, [], (⟨E2.op, E2.of_, E2.holder, E2.kind, E2.secs, ⟨#[97, 10, 98]⟩⟩ : Ev).text⟩ none 0
            exact ⟨⟨_, ⟨3, 0, ⟨#[97, 110, 110]⟩, 0, [], (⟨E2.op, E2.of_, E2.holder, E2.kind, E2.secs, ⟨#[97, 10, 98]⟩⟩ : Ev).text⟩, rfl, ⟨_, rfl, owns_low (row_fr XY.out.own (putE_fr _ _ _ _ _ _ _ _) (by omega)) (by omega)⟩, ⟨by show (ByteArray.mk #[97, 110, 110]).size ≤ 21; decide, (⟨HS2.out.1, (by show (ByteArray.mk #[97, 10, 98]).size ≤ 400; decide), HS2.out.2.2⟩ : SmallO (⟨E2.op, E2.of_, E2.holder, E2.kind, E2.secs, ⟨#[97, 10, 98]⟩⟩ : Ev)).2.1, Nat.zero_le _⟩⟩, dn.1.mono (by omega), dn.2⟩
          · have tx : ((r13 : Int) == 0) = false := by simpa using hx
            clear hx
            go_upto_region 22 with (fail)
            have DY : DrH w w113 p lo ad n c V t 208 B K ao co al cl ac cc := D13.out.turn HC.out HO.out (Fr.refl (fun x => x = w1.heap.size) _) (fun x e => by omega)
            have XY : Hid (EBox w113 (w.heap.size + 2) w1.heap.size ⟨E2.op, E2.of_, E2.holder, E2.kind, E2.secs, ⟨#[97, 10, 98]⟩⟩ a1 c1) := X13
            obtain ⟨Y, hY⟩ : ∃ Y, Y = w113 := ⟨_, rfl⟩
            rw [← hY] at DY XY ⊢
            clear hY D13 X13 
            clear zb zr zp p0 p1 p2 p3 e0 e1 e2 e3 e4 e5 f0 f1 f2 f3 f4 f5 q0 q1 q2 q3 q4 q5 h0 h1 h2 h3 h4 h5
            obtain ⟨⟨zb, zr⟩, ⟨p0, p1, p2, p3⟩, ⟨e0, e1, e2, e3, e4, e5⟩, f0, f1, f2, f3, f4, f5⟩ := DrH.facts DY hp
            obtain ⟨zp, ⟨q0, q1, q2, q3, q4, q5⟩, h0, h1, h2, h3, h4, h5⟩ := XY.out.facts
            go_wp2
            refine bodyPost_ret (v := evV ⟨E2.op, E2.of_, E2.holder, E2.kind, E2.secs, ⟨#[97, 10, 98]⟩⟩ a1 c1) (by simp [evV, results, Tryz.results55, go_sem, e0, e1, e2, e3, e4, e5]) rfl ?_
            have dn := DY.out.doneV HC.out ⟨E2.op, E2.of_, E2.holder, E2.kind, E2.secs, ⟨#[97, 10, 98]⟩⟩ a1 c1
            exact ⟨⟨_, ⟨E2.op, E2.of_, E2.holder, E2.kind, E2.secs, ⟨#[97, 10, 98]⟩⟩, rfl, ⟨_, rfl, owns_low (row_fr XY.out.own (putE_fr _ _ _ _ _ _ _ _) (by omega)) (by omega)⟩, ⟨HS2.out.1, (by show (ByteArray.mk #[97, 10, 98]).size ≤ 400; decide), HS2.out.2.2⟩⟩, dn.1.mono (by omega), dn.2⟩
        · have tx : ((r12 : Int) == 0) = false := by simpa using hx
          clear hx
          go_wp2_with fail
          obtain ⟨t14, ht14, hc14⟩ := D12.out.cur
          refine (pick_any p ad n c V t14 2 _ (by omega) hn (by omega) hc14).mono ?_
          clear hc14
          rintro e w114 ⟨⟨r14, rfl, hq14, hr14⟩, ⟨u14, hu14, hv14⟩, hf14⟩
          have D14 : DrH w w114 p lo ad n c V t 208 B K ao co al cl ac cc := D12.out.step hlo ⟨u14, by omega, hv14⟩ hf14
          have X14 : Hid (EBox w114 (w.heap.size + 2) w1.heap.size E2 a1 c1) := X12.out.fr hf14 (by omega) (fun g hg => by omega)
          clear hv14 hf14 ht14 hu14 D12 X12
          clear zb zr zp p0 p1 p2 p3 e0 e1 e2 e3 e4 e5 f0 f1 f2 f3 f4 f5 q0 q1 q2 q3 q4 q5 h0 h1 h2 h3 h4 h5
          obtain ⟨⟨zb, zr⟩, ⟨p0, p1, p2, p3⟩, ⟨e0, e1, e2, e3, e4, e5⟩, f0, f1, f2, f3, f4, f5⟩ := DrH.facts D14 hp
          obtain ⟨zp, ⟨q0, q1, q2, q3, q4, q5⟩, h0, h1, h2, h3, h4, h5⟩ := X14.out.facts
          clear hq14 hr14
          by_cases hx : (r14 : Int) = 0
          · have tx : ((r14 : Int) == 0) = true := by simpa using hx
            clear hx
            go_upto_region 22 with (fail)
            have hCh : ((((((w114.setCell ⟨w1.heap.size, 0, none⟩ (.int .i64 3)).setCell ⟨w1.heap.size, 1, none⟩ (.int .i64 0)).setCell ⟨w1.heap.size, 2, none⟩ (.string ⟨#[97, 110, 110]⟩)).setCell ⟨w1.heap.size, 3, none⟩ (.int .i64 0)).setCell ⟨w1.heap.size, 4, none⟩ (.slice none 0 0)).setCell ⟨w1.heap.size, 5, none⟩ (.string E2.text)) = (putE w114 w1.heap.size (.int .i64 3) (.int .i64 0) (.string ⟨#[97, 110, 110]⟩) (.int .i64 0) (.slice none 0 0) (.string E2.text)) := rfl
            rw [hCh]
            clear hCh
            have DY : DrH w (putE w114 w1.heap.size (.int .i64 3) (.int .i64 0) (.string ⟨#[97, 110, 110]⟩) (.int .i64 0) (.slice none 0 0) (.string E2.text)) p lo ad n c V t 208 B K ao co al cl ac cc := D14.out.turn HC.out HO.out (putE_fr _ _ _ _ _ _ _ _) (fun x e => by omega)
            have XY : Hid (EBox (putE w114 w1.heap.size (.int .i64 3) (.int .i64 0) (.string ⟨#[97, 110, 110]⟩) (.int .i64 0) (.slice none 0 0) (.string E2.text)) (w.heap.size + 2) w1.heap.size ⟨3, 0, ⟨#[97, 110, 110]⟩, 0, [], E2.text⟩ none 0) := X14.out.put ⟨3, 0, ⟨#[97, 110, 110]⟩, 0, [], E2.text⟩ none 0 (World.ownsRow_nil _ _ _ _) (fun g hg => by cases hg)
            obtain ⟨Y, hY⟩ : ∃ Y, Y = (putE w114 w1.heap.size (.int .i64 3) (.int .i64 0) (.string ⟨#[97, 110, 110]⟩) (.int .i64 0) (.slice none 0 0) (.string E2.text)) := ⟨_, rfl⟩
            rw [← hY] at DY XY ⊢
            clear hY D14 X14 
            clear zb zr zp p0 p1 p2 p3 e0 e1 e2 e3 e4 e5 f0 f1 f2 f3 f4 f5 q0 q1 q2 q3 q4 q5 h0 h1 h2 h3 h4 h5
            obtain ⟨⟨zb, zr⟩, ⟨p0, p1, p2, p3⟩, ⟨e0, e1, e2, e3, e4, e5⟩, f0, f1, f2, f3, f4, f5⟩ := DrH.facts DY hp
            obtain ⟨zp, ⟨q0, q1, q2, q3, q4, q5⟩, h0, h1, h2, h3, h4, h5⟩ := XY.out.facts
            go_wp2
            refine bodyPost_ret (v := evV ⟨3, 0, ⟨#[97, 110, 110]⟩, 0, [], E2.text⟩ none 0) (by simp [evV, results, Tryz.results55, go_sem, e0, e1, e2, e3, e4, e5]) rfl ?_
            have dn := DY.out.doneV HC.out ⟨3, 0, ⟨#[97, 110, 110]⟩, 0, [], E2.text⟩ none 0
            exact ⟨⟨_, ⟨3, 0, ⟨#[97, 110, 110]⟩, 0, [], E2.text⟩, rfl, ⟨_, rfl, owns_low (row_fr XY.out.own (putE_fr _ _ _ _ _ _ _ _) (by omega)) (by omega)⟩, ⟨by show (ByteArray.mk #[97, 110, 110]).size ≤ 21; decide, (HS2.out : SmallO (E2 : Ev)).2.1, Nat.zero_le _⟩⟩, dn.1.mono (by omega), dn.2⟩
          · have tx : ((r14 : Int) == 0) = false := by simpa using hx
            clear hx
            go_upto_region 22 with (fail)
            have DY : DrH w w114 p lo ad n c V t 208 B K ao co al cl ac cc := D14.out.turn HC.out HO.out (Fr.refl (fun x => x = w1.heap.size) _) (fun x e => by omega)
            have XY : Hid (EBox w114 (w.heap.size + 2) w1.heap.size E2 a1 c1) := X14
            obtain ⟨Y, hY⟩ : ∃ Y, Y = w114 := ⟨_, rfl⟩
            rw [← hY] at DY XY ⊢
            clear hY D14 X14 
            clear zb zr zp p0 p1 p2 p3 e0 e1 e2 e3 e4 e5 f0 f1 f2 f3 f4 f5 q0 q1 q2 q3 q4 q5 h0 h1 h2 h3 h4 h5
            obtain ⟨⟨zb, zr⟩, ⟨p0, p1, p2, p3⟩, ⟨e0, e1, e2, e3, e4, e5⟩, f0, f1, f2, f3, f4, f5⟩ := DrH.facts DY hp
            obtain ⟨zp, ⟨q0, q1, q2, q3, q4, q5⟩, h0, h1, h2, h3, h4, h5⟩ := XY.out.facts
            go_wp2
            refine bodyPost_ret (v := .agg #[.int .i64 (E2 : Ev).op, .int .i64 (E2 : Ev).of_, .string (E2 : Ev).holder, .int .i64 (E2 : Ev).kind, .slice a1 (E2 : Ev).secs.length c1, .string (E2 : Ev).text]) (by simp [results, Tryz.results55, go_sem, e0, e1, e2, e3, e4, e5]) rfl ?_
            have dn := DY.out.done HC.out (.int .i64 (E2 : Ev).op) (.int .i64 (E2 : Ev).of_) (.string (E2 : Ev).holder) (.int .i64 (E2 : Ev).kind) (.slice a1 (E2 : Ev).secs.length c1) (.string (E2 : Ev).text)
            exact ⟨⟨_, E2, rfl, ⟨_, rfl, owns_low (row_fr XY.out.own (putE_fr _ _ _ _ _ _ _ _) (by omega)) (by omega)⟩, HS2.out⟩, dn.1.mono (by omega), dn.2⟩
end Go.Proofs.YtdlaekjofgbjcaaGreatDoor