import Derived.Test.YtdlaekjofgbjcaaGreatDoorDrawY
import Derived.Test.YtdlaekjofgbjcaaGreatDoorDrawH
import Derived.Test.YtdlaekjofgbjcaaGreatDoorSAnsZ
import Derived.Test.YtdlaekjofgbjcaaGreatDoorIAnsZ
/-
 What spec.DrawHear answers: a short text. Mine, by template (wip/gen.py).
-/
namespace Go.Proofs.YtdlaekjofgbjcaaGreatDoor
open Go.RowKit
set_option maxHeartbeats 4000000 in
theorem drawHear_any (ad : Option Addr) (n c : Nat) (V : Nat → UInt8) (w : World) (hn : n ≤ 1048576) (G : BytesAt w ad n V) :
  Calls Tryz.prog 16 #[.slice ad n c] w fun e w' => RetS e 302 ∧ Below w.heap.size w w' := by
 have B1 := below1 w (.cells #[.slice ad n c, .int .i64 0, .int .u64 0] 54); have HC : Hid (Cur (w.alloc (.cells #[.slice ad n c, .int .i64 0, .int .u64 0] 54)) w.heap.size ad n c V 0) := drawn_cur G; clear G
 go_enter Tryz.func16, Tryz.ntmps16
 go_wp2_with fail
 refine (show Calls Tryz.prog 20 #[.pointer (some ⟨w.heap.size, 0, none⟩), .int .i64 12] (w.alloc (.cells #[.slice ad n c, .int .i64 0, .int .u64 0] 54)) _ from l4run_any w.heap.size ad n c V 0 12 _ (by omega) hn (by omega) HC.out).mono ?_; rintro e w1 ⟨m, u, v, k, X, sa, sc, B, K, rfl, hm1, hm9, hk, hrow, hsm, hown, hdr, hcur, hfr⟩; obtain ⟨adU, cU, rfl, hev⟩ := hrow.done; obtain ⟨ao, co, al, cl, ac, cc, rfl, -⟩ := hown.shape
 have z1 : w.heap.size < w1.heap.size := by
  have := hfr.size; simp at this; omega
 have HE : Hid (OwnBook w1 (w.heap.size + 1) (.agg #[.int .i64 B.n, .slice ao B.orders.length co, .slice al B.locked.length cl, .slice ac B.occ.length cc]) B K ∧ Drawable B ∧ CurTo w1 w.heap.size ad n c V 0 5500 ∧ Below w.heap.size w w1) := by
  have s1 : (w.alloc (.cells #[.slice ad n c, .int .i64 0, .int .u64 0] 54)).heap.size = w.heap.size + 1 := by simp
  rw [s1] at hown; exact ⟨hown, hdr, hcur.mono (by omega), B1.trans (hfr.below (by simp) (fun x e => by omega))⟩
 clear hrow hown hdr hcur hfr hev hsm B1 HC
 go_wp2_with fail
 have B2 := below1 w1 (.cells #[.int .i64 B.n, .slice ao B.orders.length co, .slice al B.locked.length cl, .slice ac B.occ.length cc] 37); obtain ⟨t1, ht1, hc1⟩ := HE.out.2.2.1; refine (line_of w.heap.size ad n c V t1 B ao co al cl ac cc _ (by omega) hn (by simp; omega) ?_).mono ?_
 ·
  have B3 := B2.trans ((below1 (w1.alloc (.cells #[.int .i64 B.n, .slice ao B.orders.length co, .slice al B.locked.length cl, .slice ac B.occ.length cc] 37)) (.cells #[.int .i64 B.n, .slice ao B.orders.length co, .slice al B.locked.length cl, .slice ac B.occ.length cc] 37)).mono B2.size); refine (event_any w.heap.size ad n c V t1 (w.heap.size + 1) _ B K _ (by omega) hn (hc1.below B3) (HE.out.1.below B3) (by omega) HE.out.2.1.1 HE.out.2.1.2.1 ⟨by have := HE.out.2.1.2.2.1; omega, by have := HE.out.2.1.2.2.2.1; omega⟩).mono ?_; rintro e w' ⟨⟨v, E, rfl, ⟨sv, rfl, ho⟩, hs⟩, hcur, hf⟩; exact ⟨_, E, sv, _, rfl, rfl, ho, hs, hcur, hf⟩
 rintro e w2 ⟨⟨s, rfl, hs⟩, hf2⟩; have F2 : Fr (fun x => x = w.heap.size) w1 w2 := (Fr.of_below B2).trans hf2; have HB : Hid (Below w.heap.size w w2) := HE.out.2.2.2.trans (F2.below (by omega) (fun x e => by omega)); clear hf2 B2 HE hc1 F2; go_wp2; go_ret; exact ⟨⟨s, rfl, hs⟩, HB.out⟩
end Go.Proofs.YtdlaekjofgbjcaaGreatDoor
/-
 laws.wInts. Mine, by template (wip/gen.py).
-/
namespace Go.Proofs.YtdlaekjofgbjcaaGreatDoor
open Go.RowKit
set_option maxHeartbeats 2000000 in
theorem wInts_same (a1 a2 : Option Addr) (c1 c2 n : Nat) (V : Nat → Int) (w : World) (hn : n ≤ 4294967296)
  (G1 : Cells w a1 n (fun i => .int .i64 (V i))) (G2 : Cells w a2 n (fun i => .int .i64 (V i))) :
  Calls Tryz.prog 10 #[.slice a1 n c1, .slice a2 n c2] w fun e w' => e = .returned (.bool true) ∧ Below w.heap.size w w' := by
 obtain ⟨b1, o1, h1, g1⟩ := G1; obtain ⟨b2, o2, h2, g2⟩ := G2
 go_enter Tryz.func10, Tryz.ntmps10
 go_wp2
 go_loopw [13] (fun i wr => ∃ k : Nat, k ≤ n ∧ i = .int .i64 k ∧ Below w.heap.size w wr) (fun i _ => n - (intOf i).toNat)
 case atStart => exact ⟨0, Nat.zero_le _, rfl, Below.refl _ _⟩
 case round =>
  obtain ⟨k, hk, rfl, hb⟩ := hrel
  by_cases hlt : k < n
  ·
   obtain rfl := h1 (by omega); obtain rfl := h2 (by omega); have e1 : wr.cell? ⟨b1, o1 + k, none⟩ = some (.int .i64 (V k)) := (hb.cell (p := ⟨b1, o1 + k, none⟩) (World.block_lt_of_cell? _ _ (g1 k hlt))).trans (g1 k hlt); have e2 : wr.cell? ⟨b2, o2 + k, none⟩ = some (.int .i64 (V k)) := (hb.cell (p := ⟨b2, o2 + k, none⟩) (World.block_lt_of_cell? _ _ (g2 k hlt))).trans (g2 k hlt); have hz : (0 : Int) ≤ (k : Int) := by omega
   have hlz : (k : Int) < (n : Int) := by omega
   clear g1 g2 h1 h2; go_wp2
   go_quiet (fail)
   go_wp2; go_roundw
   case rel => exact ⟨k + 1, by omega, by go_num, below_drewN hb _⟩
   case measure => simp [intOf]; omega
  ·
   clear g1 g2 h1 h2; go_wp2; go_ret; exact ⟨rfl, hb⟩
end Go.Proofs.YtdlaekjofgbjcaaGreatDoor
/-
 The law FnText: its walk. Mine, by template (wip/gen.py).
-/
namespace Go.Proofs.YtdlaekjofgbjcaaGreatDoor
open Go.RowKit
theorem hear_ok {l : List UInt8} {e : Ending} {w' : World} {lo : Nat} (h : RetH e w' lo l) : ∃ (ok : Bool) (E : Ev) (ad : Option Addr) (c : Nat), e = .returned (.agg #[.bool ok, .int .i64 E.op, .int .i64 E.of_, .string E.holder, .int .i64 E.kind, .slice ad E.secs.length c, .string E.text]) ∧ (ok = true ↔ ∃ F, LineOk F ∧ lineT F = l) := by
 rcases h with ⟨E, ad, c, h1, h2, h3, -⟩ | ⟨h1, h2⟩
 · exact ⟨true, E, ad, c, h3, ⟨fun _ => ⟨E, h1, h2⟩, fun _ => rfl⟩⟩
 · exact ⟨false, ⟨0, 0, ⟨#[]⟩, 0, [], ⟨#[]⟩⟩, none, 0, h2, ⟨fun e => (Bool.false_ne_true e).elim, fun ⟨F, a, b⟩ => absurd b (h1 F a)⟩⟩
theorem hear_back {E : Ev} (hE : LineOk E) {e : Ending} {w' : World} {lo : Nat} (h : RetH e w' lo (lineT E)) : ∃ ad c, e = .returned (.agg #[.bool true, .int .i64 E.op, .int .i64 E.of_, .string E.holder, .int .i64 E.kind, .slice ad E.secs.length c, .string E.text]) ∧ Cells w' ad E.secs.length (iV E.secs) := by
 rcases h with ⟨F, ad, c, h1, h2, h3, h4⟩ | ⟨h1, -⟩
 ·
  obtain rfl := lineT_inj h1 hE h2; obtain ⟨ad', c', q, h5⟩ := evAt_row h4; simp only [Value.agg.injEq, Array.mk.injEq, List.cons.injEq, Value.slice.injEq, and_true, true_and] at q; obtain ⟨rfl, rfl⟩ := q; exact ⟨ad, c, h3, h5⟩
 · exact absurd rfl (h1 E hE)
theorem heardC {w : World} {p : Nat} {z a b c d e f : Value} {t : TypeId} (h : w.heap[p]? = some (.cells #[z, a, b, c, d, e, f] t (0, 0))) :
  w.cell? ⟨p, 0, none⟩ = some z ∧ w.cell? ⟨p, 1, none⟩ = some a ∧ w.cell? ⟨p, 2, none⟩ = some b ∧ w.cell? ⟨p, 3, none⟩ = some c ∧ w.cell? ⟨p, 4, none⟩ = some d ∧ w.cell? ⟨p, 5, none⟩ = some e ∧ w.cell? ⟨p, 6, none⟩ = some f := by
 simp [World.cell?, h]
theorem Tryz.field_ok (z a b c d e f : Value) (w : World) : (Instr.field 46 (.agg #[z, a, b, c, d, e, f]) 0).run Tryz.prog w = .ok z w := by kernel_rfl
set_option maxRecDepth 20000 in
set_option maxHeartbeats 16000000 in
theorem fnText_walk (A : Nat → Addr) (ad : Option Addr) (c n : Nat) (V : Nat → UInt8) (w : World) (hE : Env w A) (G : BytesAt w ad n V) :
  Calls Tryz.prog 4 #[.slice ad n c] w fun e w' => e = .returned (.bool true) ∧ Below w.heap.size w w' := by
 have HG : Hid (BytesAt w ad n V ∧ Env w A) := ⟨G, hE⟩; clear G hE
 go_enter Tryz.func4, Tryz.ntmps4
 by_cases hbig : 1048576 < n
 ·
  have t : (1048576 : Int) < (n : Int) := by omega
  go_wp2; go_ret; exact ⟨rfl, Below.refl _ _⟩
 have hn : n ≤ 1048576 := by omega
 have tb : ¬ (1048576 : Int) < (n : Int) := by omega
 clear hbig
 go_wp2_with fail
 refine (drawn_any ad n c V w hn HG.out.1).mono ?_; rintro e w1 ⟨m, adX, N, cX, X, rfl, hm1, hm9, hN, hX, hsm, hb1⟩; have H1 : Hid (EventsAt w1 adX N X ∧ (∀ i, i < N → SmallO (X i)) ∧ Below w.heap.size w w1) := ⟨hX, hsm, hb1⟩; clear hX hsm hb1; go_wp2
 go_loopw [5, 21] (fun tv iv wr => ∃ (k : Nat) (s : ByteArray), k ≤ N ∧ iv = .int .i64 k ∧ tv = .string s ∧ s.size ≤ 301 * k ∧ Below w1.heap.size w1 wr) (fun _ iv _ => N - (intOf iv).toNat)
 case atStart => exact ⟨0, ⟨#[]⟩, Nat.zero_le _, rfl, rfl, Nat.zero_le _, Below.refl _ _⟩
 case round =>
  obtain ⟨k, s, hk, rfl, hsv, hsz, hbr⟩ := hrel; subst hsv; have H2 : Hid (Below w1.heap.size w1 wr) := hbr
  by_cases hlt : k < N
  ·
   obtain ⟨b, oo, h2, g⟩ := H1.out.1.below hbr; obtain rfl := h2 (by omega); obtain ⟨sa, sc, x0, x1, x2, x3, x4, x5, x6⟩ := g k hlt; have hs0 := H1.out.2.1 k hlt; obtain ⟨E, hE⟩ : ∃ E, E = X k := ⟨_, rfl⟩; rw [← hE] at x0 x1 x2 x3 x4 x5 x6 hs0; clear hE g h2 hbr; have lb : b < wr.heap.size := World.block_lt_of_cell? _ _ x0; have HE : Hid (Cells wr sa E.secs.length (iV E.secs)) := x6; obtain ⟨e1, e2, e3⟩ := hs0; clear x6
   go_wp2_with fail
   have hb0 : Below w1.heap.size w1 (wr.alloc (.cells #[.int .i64 E.op, .int .i64 E.of_, .string E.holder, .int .i64 E.kind, .slice sa E.secs.length sc, .string E.text] 32)) := H2.out.alloc H2.out.size _; have xb : (wr.alloc (.cells #[.int .i64 E.op, .int .i64 E.of_, .string E.holder, .int .i64 E.kind, .slice sa E.secs.length sc, .string E.text] 32)).heap[wr.heap.size]? = some (.cells #[.int .i64 E.op, .int .i64 E.of_, .string E.holder, .int .i64 E.kind, .slice sa E.secs.length sc, .string E.text] 32 (0, 0)) := Deep.blk_alloc_new _ _; have HW : Hid (Below w1.heap.size w1 (wr.alloc (.cells #[.int .i64 E.op, .int .i64 E.of_, .string E.holder, .int .i64 E.kind, .slice sa E.secs.length sc, .string E.text] 32)) ∧ (wr.alloc (.cells #[.int .i64 E.op, .int .i64 E.of_, .string E.holder, .int .i64 E.kind, .slice sa E.secs.length sc, .string E.text] 32)).heap[wr.heap.size]? = some (.cells #[.int .i64 E.op, .int .i64 E.of_, .string E.holder, .int .i64 E.kind, .slice sa E.secs.length sc, .string E.text] 32 (0, 0)) ∧ Cells (wr.alloc (.cells #[.int .i64 E.op, .int .i64 E.of_, .string E.holder, .int .i64 E.kind, .slice sa E.secs.length sc, .string E.text] 32)) sa E.secs.length (iV E.secs)) := ⟨hb0, xb, HE.out.below (below1 _ _)⟩; have z0 : wr.heap.size < (wr.alloc (.cells #[.int .i64 E.op, .int .i64 E.of_, .string E.holder, .int .i64 E.kind, .slice sa E.secs.length sc, .string E.text] 32)).heap.size := by simp
   obtain ⟨W0, hW0⟩ : ∃ W, W = wr.alloc (.cells #[.int .i64 E.op, .int .i64 E.of_, .string E.holder, .int .i64 E.kind, .slice sa E.secs.length sc, .string E.text] 32) := ⟨_, rfl⟩; rw [← hW0] at HW z0 ⊢; clear hW0 hb0 xb HE x0 x1 x2 x3 x4 x5 lb; have hb0 := below_trans H1.out.2.2 H1.out.2.2.size HW.out.1; refine (implLine_any _ E _ (by omega) (by omega) (by omega) (HG.out.2.below hb0).tab (HG.out.2.below hb0).fw ⟨sa, sc, rfl, HW.out.2.2⟩).mono ?_; clear hb0; rintro e w2 ⟨hr2, hb2⟩; obtain ⟨s1, hs1, hl⟩ := hr2; have HL : Hid (RetLn (.returned (.string s1)) E) := ⟨s1, rfl, hl⟩; subst hs1; have H3 : Hid (Below w1.heap.size w1 w2 ∧ w2.heap[wr.heap.size]? = some (.cells #[.int .i64 E.op, .int .i64 E.of_, .string E.holder, .int .i64 E.kind, .slice sa E.secs.length sc, .string E.text] 32 (0, 0)) ∧ Cells w2 sa E.secs.length (iV E.secs)) := ⟨below_trans HW.out.1 HW.out.1.size hb2, (hb2.block _ z0).trans HW.out.2.1, HW.out.2.2.below hb2⟩; have z2 : wr.heap.size < w2.heap.size := Nat.lt_of_lt_of_le z0 hb2.size; clear hb2 HW z0; obtain ⟨y0, y1, y2, y3, y4, y5⟩ := ev_cells H3.out.2.1
   go_wp2_with fail
   refine (specLine_any _ E _ (by omega) (by omega) (by omega) ⟨sa, sc, rfl, H3.out.2.2⟩).mono ?_; rintro e w3 ⟨hr3, hb3⟩; obtain ⟨s2, q1, rfl⟩ := HL.out.same hr3
   have q2 : s1 = s2 := by
    cases q1; rfl
   subst q2; obtain ⟨s3, q3, hs3⟩ := HL.out.len
   have q4 : s1 = s3 := by
    cases q3; rfl
   subst q4; have H4 : Hid (Below w1.heap.size w1 w3 ∧ w3.heap[wr.heap.size]? = some (.cells #[.int .i64 E.op, .int .i64 E.of_, .string E.holder, .int .i64 E.kind, .slice sa E.secs.length sc, .string E.text] 32 (0, 0)) ∧ Cells w3 sa E.secs.length (iV E.secs)) := ⟨below_trans H3.out.1 H3.out.1.size hb3, (hb3.block _ z2).trans H3.out.2.1, H3.out.2.2.below hb3⟩; have z3 : wr.heap.size < w3.heap.size := Nat.lt_of_lt_of_le z2 hb3.size; have HLL : Hid ((LineOk E ∧ bl s1 = lineT E) ∨ (¬ LineOk E ∧ bl s1 = [])) := hl; clear hb3 H3 z2 y0 y1 y2 y3 y4 y5 hr3 HL q1 q3 hl; have g1 : ¬ 9223372036854775807 < s1.size + 1 := by omega
   have g2 : ¬ 9223372036854775807 < s.size + (s1.size + 1) := by omega
   by_cases he : s1.size = 0
   ·
    have te : s1.toList.isEmpty = true := isE_t he; go_wp2; go_roundw
    case rel => exact ⟨k + 1, _, by omega, by go_num, rfl, by (have e9 : (ByteArray.mk #[10]).size = 1 := rfl; rw [ByteArray.size_append, ByteArray.size_append, e9]; omega), H4.out.1⟩
    case measure => simp [intOf]; omega
   ·
    have te : s1.toList.isEmpty = false := isE_f he
    have hOk : LineOk E ∧ bl s1 = lineT E := by
     rcases HLL.out with q | q
     · exact q
     ·
      have := bl_size s1; rw [q.2] at this; exact absurd this.symm he
    go_wp2_with fail
    have hb0 := below_trans H1.out.2.2 H1.out.2.2.size H4.out.1; have hEn := HG.out.2.below hb0; refine (implHear_any s1 _ (by omega) hEn.gl hEn.fw hEn.tab hEn.sz).mono ?_; clear hb0 hEn; rintro e w4 ⟨hr4, hb4⟩; rw [hOk.2] at hr4; obtain ⟨aH, cH, rfl, hcH⟩ := hear_back hOk.1 hr4; have H5 : Hid (Below w1.heap.size w1 w4 ∧ w4.heap[wr.heap.size]? = some (.cells #[.int .i64 E.op, .int .i64 E.of_, .string E.holder, .int .i64 E.kind, .slice sa E.secs.length sc, .string E.text] 32 (0, 0)) ∧ Cells w4 sa E.secs.length (iV E.secs) ∧ Cells w4 aH E.secs.length (iV E.secs)) := ⟨below_trans H4.out.1 H4.out.1.size hb4, (hb4.block _ z3).trans H4.out.2.1, H4.out.2.2.below hb4, hcH⟩; have z4 : wr.heap.size < w4.heap.size := Nat.lt_of_lt_of_le z3 hb4.size; clear hb4 H4 z3 hr4 hcH hOk
    go_upto_region 13 with (fail)
    have B5 := below1 w4 (.cells #[.bool true, .int .i64 E.op, .int .i64 E.of_, .string E.holder, .int .i64 E.kind, .slice aH E.secs.length cH, .string E.text] 46); have H6 : Hid (Below w1.heap.size w1 (w4.alloc (.cells #[.bool true, .int .i64 E.op, .int .i64 E.of_, .string E.holder, .int .i64 E.kind, .slice aH E.secs.length cH, .string E.text] 46)) ∧ (w4.alloc (.cells #[.bool true, .int .i64 E.op, .int .i64 E.of_, .string E.holder, .int .i64 E.kind, .slice aH E.secs.length cH, .string E.text] 46)).heap[wr.heap.size]? = some (.cells #[.int .i64 E.op, .int .i64 E.of_, .string E.holder, .int .i64 E.kind, .slice sa E.secs.length sc, .string E.text] 32 (0, 0)) ∧ (w4.alloc (.cells #[.bool true, .int .i64 E.op, .int .i64 E.of_, .string E.holder, .int .i64 E.kind, .slice aH E.secs.length cH, .string E.text] 46)).heap[w4.heap.size]? = some (.cells #[.bool true, .int .i64 E.op, .int .i64 E.of_, .string E.holder, .int .i64 E.kind, .slice aH E.secs.length cH, .string E.text] 46 (0, 0)) ∧ Cells (w4.alloc (.cells #[.bool true, .int .i64 E.op, .int .i64 E.of_, .string E.holder, .int .i64 E.kind, .slice aH E.secs.length cH, .string E.text] 46)) sa E.secs.length (iV E.secs) ∧ Cells (w4.alloc (.cells #[.bool true, .int .i64 E.op, .int .i64 E.of_, .string E.holder, .int .i64 E.kind, .slice aH E.secs.length cH, .string E.text] 46)) aH E.secs.length (iV E.secs)) := ⟨H5.out.1.alloc H5.out.1.size _, (B5.block _ z4).trans H5.out.2.1, Deep.blk_alloc_new _ _, H5.out.2.2.1.below B5, H5.out.2.2.2.below B5⟩; have z6 : w4.heap.size < (w4.alloc (.cells #[.bool true, .int .i64 E.op, .int .i64 E.of_, .string E.holder, .int .i64 E.kind, .slice aH E.secs.length cH, .string E.text] 46)).heap.size := by simp
    obtain ⟨W5, hW5⟩ : ∃ W, W = w4.alloc (.cells #[.bool true, .int .i64 E.op, .int .i64 E.of_, .string E.holder, .int .i64 E.kind, .slice aH E.secs.length cH, .string E.text] 46) := ⟨_, rfl⟩; rw [← hW5] at H6 z6 ⊢; clear hW5 B5 H5; obtain ⟨y0, y1, y2, y3, y4, y5⟩ := ev_cells H6.out.2.1; obtain ⟨v0, v1, v2, v3, v4, v5, v6⟩ := heardC H6.out.2.2.1; have z7 : wr.heap.size < W5.heap.size := by omega
    go_wp2_with fail
    refine (wInts_same aH sa cH sc E.secs.length (fun i => E.secs.getD i 0) _ (by omega) H6.out.2.2.2.2 H6.out.2.2.2.1).mono ?_; rintro e w6 ⟨rfl, hb6⟩; have H7 : Hid (Below w1.heap.size w1 w6) := below_trans H6.out.1 H6.out.1.size hb6; clear hb6 H6 y0 y1 y2 y3 y4 y5 v0 v1 v2 v3 v4 v5 v6; go_wp2; go_roundw
    case rel => exact ⟨k + 1, _, by omega, by go_num, rfl, by (have e9 : (ByteArray.mk #[10]).size = 1 := rfl; rw [ByteArray.size_append, ByteArray.size_append, e9]; omega), H7.out⟩
    case measure => simp [intOf]; omega
  ·
   obtain rfl : k = N := by omega
   have hb0 := below_trans H1.out.2.2 H1.out.2.2.size H2.out; have H3 : Hid (Below w.heap.size w wr) := hb0; clear hbr hb0 H2
   go_wp2_with fail
   refine (drawHear_any ad n c V _ hn (HG.out.1.below H3.out)).mono ?_; rintro e w2 ⟨⟨ln, rfl, hln⟩, hb2⟩; have H4 : Hid (Below w.heap.size w w2) := below_trans H3.out H3.out.size hb2; clear H3 hb2
   go_wp2_with fail
   refine (implHear_any ln _ (by omega) (HG.out.2.below H4.out).gl (HG.out.2.below H4.out).fw (HG.out.2.below H4.out).tab (HG.out.2.below H4.out).sz).mono ?_; rintro e w3 ⟨hr3, hb3⟩; obtain ⟨ok, E3, a3, c3, rfl, hk3⟩ := hear_ok hr3; have H5 : Hid (Below w.heap.size w w3 ∧ (ok = true ↔ ∃ F, LineOk F ∧ lineT F = bl ln)) := ⟨below_trans H4.out H4.out.size hb3, hk3⟩; clear H4 hb3 hk3 hr3; have fo := Tryz.field_ok (.bool ok) (.int .i64 E3.op) (.int .i64 E3.of_) (.string E3.holder) (.int .i64 E3.kind) (.slice a3 E3.secs.length c3) (.string E3.text)
   go_wp2_with fail
   refine (specHear_any ln _ (by omega)).mono ?_; rintro e w4 ⟨hr4, hb4⟩; obtain ⟨ok2, E4, a4, c4, rfl, hk4⟩ := hear_ok hr4; have H6 : Hid (Below w.heap.size w w4) := below_trans H5.out.1 H5.out.1.size hb4
   obtain rfl : ok = ok2 := by
    have := H5.out.2.trans hk4.symm
    cases ok <;> cases ok2 <;> simp_all
   have tk1 : (ok == ok) = true := by cases ok <;> rfl
   clear H5 hb4 hk4 hr4; have fo2 := Tryz.field_ok (.bool ok) (.int .i64 E4.op) (.int .i64 E4.of_) (.string E4.holder) (.int .i64 E4.kind) (.slice a4 E4.secs.length c4) (.string E4.text)
   go_wp2_with fail
   refine (implAnswer_any A m s _ (by omega) (HG.out.2.below H6.out)).mono ?_; rintro e w5 ⟨⟨t1, rfl, ht1⟩, hb5⟩; have H7 : Hid (Below w.heap.size w w5) := below_trans H6.out H6.out.size hb5; clear H6 hb5
   go_wp2_with fail
   refine (specAnswer_any m s _ (by omega)).mono ?_; rintro e w6 ⟨⟨t2, rfl, ht2⟩, hb6⟩; obtain rfl : t1 = t2 := bl_inj (ht1.trans ht2.symm); have H8 : Hid (Below w.heap.size w w6) := below_trans H7.out H7.out.size hb6; clear H7 hb6 ht1 ht2; go_wp2; go_ret; exact ⟨rfl, H8.out⟩
end Go.Proofs.YtdlaekjofgbjcaaGreatDoor
