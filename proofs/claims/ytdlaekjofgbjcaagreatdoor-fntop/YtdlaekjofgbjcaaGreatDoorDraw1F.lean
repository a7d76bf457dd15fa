/-
 An event drawn, told exactly: (*spec.l4Cur).event. Mine, by program (wip/draw1f.py), by template (wip/gen.py).
-/
import Derived.Test.YtdlaekjofgbjcaaGreatDoorCurY
import Derived.Test.YtdlaekjofgbjcaaGreatDoorEvS
import Derived.Test.YtdlaekjofgbjcaaGreatDoorSText
import Derived.Test.YtdlaekjofgbjcaaGreatDoorDonesZ
import Derived.Test.YtdlaekjofgbjcaaGreatDoorICopy
import Derived.Test.YtdlaekjofgbjcaaGreatDoorIDoZ
import Derived.Test.YtdlaekjofgbjcaaGreatDoorAnsY
import Derived.Deep.RegionHeld3
namespace Go.Proofs.YtdlaekjofgbjcaaGreatDoor
open Go.RowKit
def EvO (w : World) (lo : Nat) (v : Value) (E : Ev) : Prop := ∃ sv, v = .agg #[.int .i64 E.op, .int .i64 E.of_, .string E.holder, .int .i64 E.kind, sv, .string E.text] ∧ w.ownsRow lo 3 1 sv E.secs.length (E.secs.map (Value.int .i64))
def SmallE (E : Ev) : Prop := E.holder.size ≤ 20 ∧ E.text.size ≤ 400 ∧ E.secs.length ≤ 20
def RetE (e : Ending) (w' : World) (lo : Nat) (x : Ev) : Prop := ∃ v E, e = .returned v ∧ EvO w' lo v E ∧ SmallE E ∧ Hid (E = x)
theorem evO_nil (w : World) (lo : Nat) (op of_ kind : Int) (h t : ByteArray) : EvO w lo (.agg #[.int .i64 op, .int .i64 of_, .string h, .int .i64 kind, .slice none 0 0, .string t]) ⟨op, of_, h, kind, [], t⟩ := ⟨_, rfl, World.ownsRow_nil _ _ _ _⟩
structure Dr (w w0 W : World) (p lo : Nat) (ad : Option Addr) (n c : Nat) (V : Nat → UInt8) (t d : Nat) (v : Value) (B : Bk) (K : Blk) (T : Nat) : Prop where
 cur : CurTo W p ad n c V t d T
 own : OwnBook W lo v B K
 fr : Fr (fun x => x = p) w0 W
theorem Dr.step {w w0 W W' : World} {p lo : Nat} {ad : Option Addr} {n c : Nat} {V : Nat → UInt8} {t d d' T T' : Nat} {v : Value} {B : Bk} {K : Blk} (h : Dr w w0 W p lo ad n c V t d v B K T) (hp : p < lo) (hc : CurTo W' p ad n c V t d' T') (hf : Fr (fun x => x = p) W W') : Dr w w0 W' p lo ad n c V t d' v B K T' :=
 ⟨hc, h.own.fr hf (fun x hx e => by have := h.own.blocks_low hx; omega), h.fr.trans hf⟩
def putE (W : World) (R : Nat) (a b c d e f : Value) : World := (((((W.setCell ⟨R, 0, none⟩ a).setCell ⟨R, 1, none⟩ b).setCell ⟨R, 2, none⟩ c).setCell ⟨R, 3, none⟩ d).setCell ⟨R, 4, none⟩ e).setCell ⟨R, 5, none⟩ f
theorem putE_fr (W : World) (R : Nat) (a b c d e f : Value) : Fr (fun x => x = R) W (putE W R a b c d e f) := fr1 (fr1 (fr1 (fr1 (fr1 (fr1 (Fr.refl _ _))))))
theorem Dr.done {w W : World} {p lo : Nat} {ad : Option Addr} {n c : Nat} {V : Nat → UInt8} {t d T : Nat} {v : Value} {B : Bk} {K : Blk} {o1 o2 : Obj} (h : Dr w ((w.alloc o1).alloc o2) W p lo ad n c V t d v B K T) (h0 : Cur w p ad n c V t) (x1 x2 x3 x4 x5 x6 : Value) :
  CurTo (putE W (w.heap.size + 1) x1 x2 x3 x4 x5 x6) p ad n c V t d T ∧ Fr (fun x => x = p) w (putE W (w.heap.size + 1) x1 x2 x3 x4 x5 x6) := by
 have pf := putE_fr W (w.heap.size + 1) x1 x2 x3 x4 x5 x6; obtain ⟨t', h1, h2, h3⟩ := h.cur; have hp := h0.lt; refine ⟨⟨t', h1, h2.fr pf (by omega) (fun hn b o ha e => by have := h0.adlt hn ha; omega), h3⟩, ?_⟩; have f1 : Fr (fun x => x = p ∨ x = w.heap.size + 1) w ((w.alloc o1).alloc o2) := Fr.of_below (below2 _ _ _)
 exact ((f1.trans (h.fr.mono (fun i e => Or.inl e))).trans (pf.mono (fun i e => Or.inr e))).cut (fun i hi e => by
  rcases e with e | e
  · exact e
  · omega)
theorem Dr.boxes {w W : World} {p lo : Nat} {ad : Option Addr} {n c : Nat} {V : Nat → UInt8} {t d T : Nat} {v : Value} {B : Bk} {K : Blk} {c1 c2 : Array Value} {t1 t2 : TypeId} (h : Dr w ((w.alloc (.cells c1 t1)).alloc (.cells c2 t2)) W p lo ad n c V t d v B K T) (hp : p < w.heap.size) :
  W.heap[w.heap.size]? = some (.cells c1 t1 (0, 0)) ∧ W.heap[w.heap.size + 1]? = some (.cells c2 t2 (0, 0)) ∧ w.heap.size + 2 ≤ W.heap.size := by
 have s2 : ((w.alloc (.cells c1 t1)).alloc (.cells c2 t2)).heap.size = w.heap.size + 2 := by simp
 refine ⟨(h.fr.block _ (by omega) (by omega)).trans ((Deep.blk_alloc_lt _ _ _ (by simp)).trans (Deep.blk_alloc_new _ _)), (h.fr.block _ (by omega) (by omega)).trans ?_, by have := h.fr.size; omega⟩; have := Deep.blk_alloc_new (w.alloc (.cells c1 t1)) (.cells c2 t2)
 simpa using this
theorem Dr.below {w w0 W W' : World} {p lo : Nat} {ad : Option Addr} {n c : Nat} {V : Nat → UInt8} {t d T : Nat} {v : Value} {B : Bk} {K : Blk} (h : Dr w w0 W p lo ad n c V t d v B K T) (hb : Below W.heap.size W W') : Dr w w0 W' p lo ad n c V t d v B K T := by
 obtain ⟨t', h1, h2, h3⟩ := h.cur; exact ⟨⟨t', h1, h2.below hb, h3⟩, h.own.below hb, h.fr.trans (Fr.of_below hb)⟩
theorem book_head {w : World} {lo : Nat} {B : Bk} {K : Blk} {ao : Option Addr} {co : Nat} {al : Option Addr} {cl : Nat} {ac : Option Addr} {cc : Nat} (h : OwnBook w lo (.agg #[.int .i64 B.n, .slice ao B.orders.length co, .slice al B.locked.length cl, .slice ac B.occ.length cc]) B K) (hp : 0 < B.orders.length) : ao = some ⟨K.G, 0, none⟩ := by
 obtain ⟨ao', co', al', cl', ac', cc', hv, h1, -, -⟩ := h.shape; simp only [Value.agg.injEq, Array.mk.injEq, List.cons.injEq, Value.slice.injEq, and_true, true_and] at hv; obtain ⟨⟨rfl, -⟩, -⟩ := hv; exact h1.head hp
theorem textIs_len {B : Bk} {i : Int} {l : List UInt8} (h : TextIs B i l) : l.length ≤ 399 := by
 rcases h with ⟨_, rfl⟩ | ⟨hR, j, _, hj, h⟩
 · simp
 have hO := hR.2.1 j hj; have hn : B.n ≤ 60 := hR.1.1.2; have ho : B.orders.length ≤ 200 := hR.1.2.2.2; have hs := secT_len (bX B j) B.n (by omega) (fun q hq => ⟨(hO.2.2.1.1 q hq).1, (hO.2.2.1.1 q hq).2.1⟩) (bX B j).secs.length (Nat.le_refl _); have h20 : (bX B j).secs.length ≤ 20 := hO.2.2.1.2.2; have hh : (bl (bX B j).holder).length ≤ 20 := by rw [bl_size]; exact hO.1.2.2
 have hd := dec_len j (by omega)
 have hb : (baseT j (bX B j)).length ≤ 42 := by
  unfold baseT headT; have h2 : orderT.length = 6 := rfl; have h3 : toT.length = 4 := rfl; have h5 : passT.length = 6 := rfl; have h6 : workT.length = 9 := rfl
  split <;> simp only [List.length_append] <;> omega
 have hg : sightT.length = 9 := rfl
 rcases h with ⟨_, _, rfl⟩ | ⟨_, rfl⟩ <;> simp only [List.length_append] <;> omega
abbrev DrH (w W : World) (p lo : Nat) (ad : Option Addr) (n c : Nat) (V : Nat → UInt8) (t d : Nat) (B : Bk) (K : Blk) (ao : Option Addr) (co : Nat) (al : Option Addr) (cl : Nat) (ac : Option Addr) (cc : Nat) (T : Nat) : Prop := Hid (Dr w ((w.alloc (.cells #[.int .i64 B.n, .slice ao B.orders.length co, .slice al B.locked.length cl, .slice ac B.occ.length cc] 37)).alloc (.cells #[.int .i64 0, .int .i64 0, .string ⟨#[]⟩, .int .i64 0, .slice none 0 0, .string ⟨#[]⟩] 32)) W p lo ad n c V t d (.agg #[.int .i64 B.n, .slice ao B.orders.length co, .slice al B.locked.length cl, .slice ac B.occ.length cc]) B K T)
theorem DrH.facts {w W : World} {p lo : Nat} {ad : Option Addr} {n c : Nat} {V : Nat → UInt8} {t d T : Nat} {B : Bk} {K : Blk} {ao : Option Addr} {co : Nat} {al : Option Addr} {cl : Nat} {ac : Option Addr} {cc : Nat} (h : DrH w W p lo ad n c V t d B K ao co al cl ac cc T) (hp : p < w.heap.size) :
  (w.heap.size < W.heap.size ∧ w.heap.size + 1 < W.heap.size) ∧ (W.cell? ⟨w.heap.size, 0, none⟩ = some (.int .i64 B.n) ∧ W.cell? ⟨w.heap.size, 1, none⟩ = some (.slice ao B.orders.length co) ∧ W.cell? ⟨w.heap.size, 2, none⟩ = some (.slice al B.locked.length cl) ∧ W.cell? ⟨w.heap.size, 3, none⟩ = some (.slice ac B.occ.length cc)) ∧
  (W.cell? ⟨w.heap.size + 1, 0, none⟩ = some (.int .i64 0) ∧ W.cell? ⟨w.heap.size + 1, 1, none⟩ = some (.int .i64 0) ∧ W.cell? ⟨w.heap.size + 1, 2, none⟩ = some (.string ⟨#[]⟩) ∧ W.cell? ⟨w.heap.size + 1, 3, none⟩ = some (.int .i64 0) ∧ W.cell? ⟨w.heap.size + 1, 4, none⟩ = some (.slice none 0 0) ∧ W.cell? ⟨w.heap.size + 1, 5, none⟩ = some (.string ⟨#[]⟩)) ∧
  W.frozen? ⟨w.heap.size + 1, 0, none⟩ = false ∧ W.frozen? ⟨w.heap.size + 1, 1, none⟩ = false ∧ W.frozen? ⟨w.heap.size + 1, 2, none⟩ = false ∧ W.frozen? ⟨w.heap.size + 1, 3, none⟩ = false ∧ W.frozen? ⟨w.heap.size + 1, 4, none⟩ = false ∧ W.frozen? ⟨w.heap.size + 1, 5, none⟩ = false := by
 obtain ⟨xb, xr, zz⟩ := Dr.boxes h.out hp; exact ⟨⟨by omega, by omega⟩, box_cells xb, ev_cells xr, frozen_of_box xr, frozen_of_box xr, frozen_of_box xr, frozen_of_box xr, frozen_of_box xr, frozen_of_box xr⟩
noncomputable def textB (B : Bk) (i : Int) : ByteArray := Classical.epsilon (fun s => TextIs B i (bl s))
theorem textB_of {B : Bk} {i : Int} {y : ByteArray} (h : TextIs B i (bl y)) : y = textB B i := bl_inj (h.det (Classical.epsilon_spec (p := fun s => TextIs B i (bl s)) ⟨y, h⟩))
def evW (n : Nat) (V : Nat → UInt8) (m t : Nat) : Ev × Nat := (⟨1, 0, holdF (pickF n V t 3), IntKind.i64.wrap (1 + (pickF n V (pickT t 3) 2 : Int)), (listF n V (pickT (pickT t 3) 2) m).1, ⟨#[]⟩⟩, (listF n V (pickT (pickT t 3) 2) m).2)
def evL (n : Nat) (V : Nat → UInt8) (N : Int) (t : Nat) : Ev × Nat := (⟨6, (pickF n V t N : Int), ⟨#[]⟩, 0, [], ⟨#[]⟩⟩, pickT t N)
def evG (n : Nat) (V : Nat → UInt8) (N : Int) (t : Nat) : Ev × Nat := (⟨IntKind.i64.wrap (6 + (pickF n V t 4 : Int)), (pickF n V (pickT t 4) N : Int), ⟨#[]⟩, 0, [], ⟨#[]⟩⟩, pickT (pickT t 4) N)
def evE (n : Nat) (V : Nat → UInt8) (i : Nat) (h : ByteArray) (t : Nat) : Ev × Nat := if 0 < pickF n V t 5 then (⟨4, (i : Int), h, 0, [], ⟨#[]⟩⟩, pickT t 5) else (⟨5, (i : Int), ⟨#[]⟩, 0, [], ⟨#[]⟩⟩, pickT t 5)
noncomputable def evD (n : Nat) (V : Nat → UInt8) (B : Bk) (i : Nat) (h : ByteArray) (t : Nat) : Ev × Nat :=
 if (bX B i).state = 1 then (if 0 < pickF n V t 6 then (⟨2, (i : Int), ⟨#[]⟩, 0, [], ⟨#[]⟩⟩, pickT t 6) else evE n V i h (pickT t 6))
 else if (bX B i).state = 2 then (if 0 < pickF n V t 6 then (if pickF n V (pickT t 6) 8 = 0 then (⟨3, (i : Int), h, 0, [], textB B (i : Int) ++ ⟨#[120]⟩⟩, pickT (pickT t 6) 8) else (⟨3, (i : Int), h, 0, [], textB B (i : Int)⟩, pickT (pickT t 6) 8)) else evE n V i h (pickT t 6))
 else evE n V i h t
noncomputable def evB (n : Nat) (V : Nat → UInt8) (B : Bk) (i t : Nat) : Ev × Nat :=
 if pickF n V t 10 = 0 then evD n V B i (holdF (pickF n V (pickT t 10) 3)) (pickT (pickT t 10) 3) else evD n V B i (bX B i).holder (pickT t 10)
noncomputable def eventF (n : Nat) (V : Nat → UInt8) (t : Nat) (B : Bk) : Ev × Nat :=
 if B.n < 1 then (⟨0, 0, ⟨#[]⟩, 0, [], ⟨#[]⟩⟩, t)
 else if B.orders.length = 0 ∧ 3 < pickF n V t 14 ∧ pickF n V t 14 < 10 then evW n V B.n.toNat (pickT t 14)
 else if pickF n V t 14 < 3 then evW n V B.n.toNat (pickT t 14)
 else if pickF n V t 14 = 3 then evL n V B.n (pickT t 14)
 else if pickF n V t 14 < 10 then evB n V B (pickF n V (pickT t 14) (B.orders.length : Int)) (pickT (pickT t 14) (B.orders.length : Int))
 else evG n V B.n (pickT t 14)
theorem CurTo.to {w' : World} {p : Nat} {ad : Option Addr} {n c : Nat} {V : Nat → UInt8} {t d T T' : Nat} (h : CurTo w' p ad n c V t d T) (e : T = T') : CurTo w' p ad n c V t d T' := e ▸ h
set_option maxRecDepth 20000 in
set_option maxHeartbeats 16000000 in
theorem event_any (p : Nat) (ad : Option Addr) (n c : Nat) (V : Nat → UInt8) (t lo : Nat) (v : Value) (B : Bk) (K : Blk) (w : World) (ht : t ≤ 700000000) (hn : n ≤ 1048576) (hc : Cur w p ad n c V t) (hO : OwnBook w lo v B K) (hlo : p < lo) (hT : Tiny B) (hN : Names B) (hb : -9223372036854775808 ≤ B.n ∧ B.n ≤ 60) :
  Calls Tryz.prog 54 #[.pointer (some ⟨p, 0, none⟩), v] w fun e w' => RetE e w' w.heap.size (eventF n V t B).1 ∧ CurTo w' p ad n c V t 200 (eventF n V t B).2 ∧ Fr (fun x => x = p) w w' := by
 have hp := hc.lt; obtain ⟨ao, co, al, cl, ac, cc, hv, -⟩ := hO.shape; subst hv; have HC : Hid (Cur w p ad n c V t) := hc; have B2 := below2 w (.cells #[.int .i64 B.n, .slice ao B.orders.length co, .slice al B.locked.length cl, .slice ac B.occ.length cc] 37) (.cells #[.int .i64 0, .int .i64 0, .string ⟨#[]⟩, .int .i64 0, .slice none 0 0, .string ⟨#[]⟩] 32); have H0 : Hid (Dr w ((w.alloc (.cells #[.int .i64 B.n, .slice ao B.orders.length co, .slice al B.locked.length cl, .slice ac B.occ.length cc] 37)).alloc (.cells #[.int .i64 0, .int .i64 0, .string ⟨#[]⟩, .int .i64 0, .slice none 0 0, .string ⟨#[]⟩] 32)) ((w.alloc (.cells #[.int .i64 B.n, .slice ao B.orders.length co, .slice al B.locked.length cl, .slice ac B.occ.length cc] 37)).alloc (.cells #[.int .i64 0, .int .i64 0, .string ⟨#[]⟩, .int .i64 0, .slice none 0 0, .string ⟨#[]⟩] 32)) p lo ad n c V t 0 (.agg #[.int .i64 B.n, .slice ao B.orders.length co, .slice al B.locked.length cl, .slice ac B.occ.length cc]) B K t) := ⟨⟨t, by omega, hc.below B2, rfl⟩, hO.below B2, Fr.refl _ _⟩; have HB : Hid (Tiny B ∧ Names B) := ⟨hT, hN⟩; clear hc hO hT hN B2
 go_enter Tryz.func54, Tryz.ntmps54
 by_cases hz : B.n < 1
 ·
  obtain ⟨-, x2, -⟩ := H0.out.boxes hp; go_wp2; obtain ⟨e0, e1, e2, e3, e4, e5⟩ := ev_cells x2; obtain ⟨t1, ht1, hc1, hgA⟩ := H0.out.cur; have hX : eventF n V t B = (⟨0, 0, ⟨#[]⟩, 0, [], ⟨#[]⟩⟩, t) := by unfold eventF; rw [if_pos hz]
  have fw : Fr (fun x => x = p) w ((w.alloc (.cells #[.int .i64 B.n, .slice ao B.orders.length co, .slice al B.locked.length cl, .slice ac B.occ.length cc] 37)).alloc (.cells #[.int .i64 0, .int .i64 0, .string ⟨#[]⟩, .int .i64 0, .slice none 0 0, .string ⟨#[]⟩] 32)) := Fr.of_below (below2 _ _ _); refine bodyPost_ret (v := .agg #[.int .i64 0, .int .i64 0, .string ⟨#[]⟩, .int .i64 0, .slice none 0 0, .string ⟨#[]⟩]) (by simp [results, Tryz.results54, go_sem]) rfl ⟨⟨_, ⟨0, 0, ⟨#[]⟩, 0, [], ⟨#[]⟩⟩, rfl, evO_nil _ _ _ _ _ _ _, ⟨Nat.zero_le _, Nat.zero_le _, Nat.zero_le _⟩, (congrArg Prod.fst hX).symm⟩, ⟨t1, by omega, hc1, hgA.out.trans (congrArg Prod.snd hX).symm⟩, fw⟩
 go_wp2_with fail
 obtain ⟨tA, htA, hcA, hgA⟩ := H0.out.cur; refine (pick_any p ad n c V tA 14 _ (by omega) hn (by omega) hcA).mono ?_; clear hcA; rintro e w1 ⟨⟨r, rfl, -, hr, hFA⟩, ⟨uA, huA, hvA, hTA⟩, hf1⟩; have hr14 : r < 14 := by have := hr (by omega); omega
 have D0 : DrH w w1 p lo ad n c V t 2 B K ao co al cl ac cc uA := H0.out.step hlo ⟨uA, by omega, hvA, rfl⟩ hf1; have hz1 : 1 ≤ B.n := by omega
 clear hr hvA hf1 H0; obtain ⟨⟨zb, zr⟩, ⟨p0, p1, p2, p3⟩, ⟨e0, e1, e2, e3, e4, e5⟩, f0, f1, f2, f3, f4, f5⟩ := DrH.facts D0 hp; have ho201 : B.orders.length ≤ 201 := HB.out.1.o
 by_cases hno : B.orders.length = 0
 ·
  have tno : ((B.orders.length : Int) == 0) = true := len0_t' hno; rcases (show r = 0 ∨ r = 1 ∨ r = 2 ∨ r = 3 ∨ r = 4 ∨ r = 5 ∨ r = 6 ∨ r = 7 ∨ r = 8 ∨ r = 9 ∨ r = 10 ∨ r = 11 ∨ r = 12 ∨ r = 13 by omega) with rfl | rfl | rfl | rfl | rfl | rfl | rfl | rfl | rfl | rfl | rfl | rfl | rfl | rfl
  iterate 3
   ·
    obtain ⟨m, hm⟩ : ∃ m : Nat, B.n = (m : Int) := ⟨B.n.toNat, by omega⟩; have HM : Hid (B.n = (m : Int)) := hm; have hm60 : m ≤ 60 := by have := hb.2; omega
    go_wp2; rw [hm] at p0; clear hm
    go_region_held3 (fun w' => w'.cell? ⟨w.heap.size, 0, none⟩ = some (.int .i64 (m : Int))) (go_keep)
     (first | (go_at_call 82; obtain ⟨t20, ht20, hc20, hg20⟩ := D19.out.cur; refine (list_any p ad n c V t20 m _ (by omega) hn (by omega) hc20).mono ?_; clear hc20; rintro e w120 ⟨⟨l20, L20, rfl, ho20, hl20, hF20⟩, ⟨u20, hu20, hv20, hT20⟩, hf20⟩; have D20 : DrH w w120 p lo ad n c V t 136 B K ao co al cl ac cc u20 := Dr.step D19.out hlo ⟨u20, by omega, hv20, rfl⟩ hf20; have k20 : w120.cell? ⟨w.heap.size, 0, none⟩ = some (.int .i64 (m : Int)) := HM.out ▸ (box_cells (D20.out.boxes hp).1).1; obtain ⟨g20, a20, c20, rfl, -⟩ := ownL_of ho20; have hoL : Hid (w120.ownsRow (w.heap.size + 2) 3 1 (.slice a20 L20.length c20) L20.length (L20.map (Value.int .i64))) := owns_low ho20 (D19.out.boxes hp).2.2; clear ho20; obtain ⟨-, -, ⟨e0, e1, e2, e3, e4, e5⟩, f0, f1, f2, f3, f4, f5⟩ := DrH.facts D20 hp; clear hv20 hf20 ht20 hu20) | (go_at_call 53; obtain ⟨t19, ht19, hc19, hg19⟩ := D18.out.cur; refine (pick_any p ad n c V t19 2 _ (by omega) hn (by omega) hc19).mono ?_; clear hc19; rintro e w119 ⟨⟨r19, rfl, hq19, hr19, hF19⟩, ⟨u19, hu19, hv19, hT19⟩, hf19⟩; have D19 : DrH w w119 p lo ad n c V t 6 B K ao co al cl ac cc u19 := Dr.step D18.out hlo ⟨u19, by omega, hv19, rfl⟩ hf19; have k19 : w119.cell? ⟨w.heap.size, 0, none⟩ = some (.int .i64 (m : Int)) := HM.out ▸ (box_cells (D19.out.boxes hp).1).1; have b19 : r19 < 2 := (by have := hr19 (by omega); omega); clear hv19 hf19 ht19 hu19) | (go_at_call 81; obtain ⟨t18, ht18, hc18, hg18⟩ := (D0.out.below (Below.refl _ _).drew).cur; refine (holder_any p ad n c V t18 _ (by omega) hn hc18).mono ?_; clear hc18; rintro e w118 ⟨⟨s18, rfl, hs18, hF18⟩, ⟨u18, hu18, hv18, hT18⟩, hf18⟩; have D18 : DrH w w118 p lo ad n c V t 4 B K ao co al cl ac cc u18 := Dr.step (D0.out.below (Below.refl _ _).drew) hlo ⟨u18, by omega, hv18, rfl⟩ hf18; have k18 : w118.cell? ⟨w.heap.size, 0, none⟩ = some (.int .i64 (m : Int)) := HM.out ▸ (box_cells (D18.out.boxes hp).1).1; clear hv18 hf18 ht18 hu18))
    clear hq19 hr19; go_wp2; refine bodyPost_ret (v := .agg #[.int .i64 1, .int .i64 0, .string s18, .int .i64 (IntKind.i64.wrap (1 + (r19 : Int))), .slice a20 L20.length c20, .string ⟨#[]⟩]) (by simp [results, Tryz.results54, go_sem, e0, e1, e2, e3, e4, e5]) rfl ?_; have dn := D20.out.done HC.out (.int .i64 1) (.int .i64 0) (.string s18) (.int .i64 (IntKind.i64.wrap (1 + (r19 : Int)))) (.slice a20 L20.length c20) (.string ⟨#[]⟩)
    have hX : eventF n V t B = (⟨1, 0, s18, IntKind.i64.wrap (1 + (r19 : Int)), L20, ⟨#[]⟩⟩, u20) := by
     have hBm : B.n.toNat = m := by have := HM.out; omega
     simp only [eventF, evW, evL, evG, evB, evD, evE, hBm, ← hgA.out, ← hFA.out, ← hTA.out, ← hg20.out, ← hF20.out, ← hT20.out, ← hg19.out, ← hF19.out, ← hT19.out, ← hg18.out, ← hF18.out, ← hT18.out]
     repeat (first | rw [if_pos (by omega)] | rw [if_neg (by omega)] | rw [if_pos True.intro])
    exact ⟨⟨_, ⟨1, 0, s18, IntKind.i64.wrap (1 + (r19 : Int)), L20, ⟨#[]⟩⟩, rfl, ⟨_, rfl, owns_low (row_fr hoL.out (putE_fr _ _ _ _ _ _ _ _) (by omega)) (by omega)⟩, ⟨(by omega : s18.size ≤ 20), Nat.zero_le _, hl20⟩, (congrArg Prod.fst hX).symm⟩, (dn.1.mono (by omega)).to (congrArg Prod.snd hX).symm, dn.2⟩
  ·
   go_wp2_with fail
   obtain ⟨t27, ht27, hc27, hg27⟩ := D0.out.cur; refine (pick_any p ad n c V t27 B.n _ (by omega) hn (by omega) hc27).mono ?_; clear hc27; rintro e w127 ⟨⟨r27, rfl, hq27, hr27, hF27⟩, ⟨u27, hu27, hv27, hT27⟩, hf27⟩; have D27 : DrH w w127 p lo ad n c V t 4 B K ao co al cl ac cc u27 := D0.out.step hlo ⟨u27, by omega, hv27, rfl⟩ hf27; clear hv27 hf27 ht27 hu27 D0; clear zb zr p0 p1 p2 p3 e0 e1 e2 e3 e4 e5 f0 f1 f2 f3 f4 f5; obtain ⟨⟨zb, zr⟩, ⟨p0, p1, p2, p3⟩, ⟨e0, e1, e2, e3, e4, e5⟩, f0, f1, f2, f3, f4, f5⟩ := DrH.facts D27 hp; clear hq27 hr27; go_wp2; refine bodyPost_ret (v := .agg #[.int .i64 6, .int .i64 (r27 : Int), .string ⟨#[]⟩, .int .i64 0, .slice none 0 0, .string ⟨#[]⟩]) (by simp [results, Tryz.results54, go_sem, e0, e1, e2, e3, e4, e5]) rfl ?_; have dn := D27.out.done HC.out (.int .i64 6) (.int .i64 (r27 : Int)) (.string ⟨#[]⟩) (.int .i64 0) (.slice none 0 0) (.string ⟨#[]⟩)
   have hX : eventF n V t B = (⟨6, (r27 : Int), ⟨#[]⟩, 0, [], ⟨#[]⟩⟩, u27) := by
    simp only [eventF, evW, evL, evG, evB, evD, evE, ← hgA.out, ← hFA.out, ← hTA.out, ← hg27.out, ← hF27.out, ← hT27.out]
    repeat (first | rw [if_pos (by omega)] | rw [if_neg (by omega)] | rw [if_pos True.intro])
   exact ⟨⟨_, ⟨6, (r27 : Int), ⟨#[]⟩, 0, [], ⟨#[]⟩⟩, rfl, evO_nil _ _ _ _ _ _ _, ⟨Nat.zero_le _, Nat.zero_le _, Nat.zero_le _⟩, (congrArg Prod.fst hX).symm⟩, (dn.1.mono (by omega)).to (congrArg Prod.snd hX).symm, dn.2⟩
  iterate 6
   ·
    obtain ⟨m, hm⟩ : ∃ m : Nat, B.n = (m : Int) := ⟨B.n.toNat, by omega⟩; have HM : Hid (B.n = (m : Int)) := hm; have hm60 : m ≤ 60 := by have := hb.2; omega
    go_wp2; rw [hm] at p0; clear hm
    go_region_held3 (fun w' => w'.cell? ⟨w.heap.size, 0, none⟩ = some (.int .i64 (m : Int))) (go_keep)
     (first | (go_at_call 82; obtain ⟨t30, ht30, hc30, hg30⟩ := D29.out.cur; refine (list_any p ad n c V t30 m _ (by omega) hn (by omega) hc30).mono ?_; clear hc30; rintro e w130 ⟨⟨l30, L30, rfl, ho30, hl30, hF30⟩, ⟨u30, hu30, hv30, hT30⟩, hf30⟩; have D30 : DrH w w130 p lo ad n c V t 136 B K ao co al cl ac cc u30 := Dr.step D29.out hlo ⟨u30, by omega, hv30, rfl⟩ hf30; have k30 : w130.cell? ⟨w.heap.size, 0, none⟩ = some (.int .i64 (m : Int)) := HM.out ▸ (box_cells (D30.out.boxes hp).1).1; obtain ⟨g30, a30, c30, rfl, -⟩ := ownL_of ho30; have hoL : Hid (w130.ownsRow (w.heap.size + 2) 3 1 (.slice a30 L30.length c30) L30.length (L30.map (Value.int .i64))) := owns_low ho30 (D29.out.boxes hp).2.2; clear ho30; obtain ⟨-, -, ⟨e0, e1, e2, e3, e4, e5⟩, f0, f1, f2, f3, f4, f5⟩ := DrH.facts D30 hp; clear hv30 hf30 ht30 hu30) | (go_at_call 53; obtain ⟨t29, ht29, hc29, hg29⟩ := D28.out.cur; refine (pick_any p ad n c V t29 2 _ (by omega) hn (by omega) hc29).mono ?_; clear hc29; rintro e w129 ⟨⟨r29, rfl, hq29, hr29, hF29⟩, ⟨u29, hu29, hv29, hT29⟩, hf29⟩; have D29 : DrH w w129 p lo ad n c V t 6 B K ao co al cl ac cc u29 := Dr.step D28.out hlo ⟨u29, by omega, hv29, rfl⟩ hf29; have k29 : w129.cell? ⟨w.heap.size, 0, none⟩ = some (.int .i64 (m : Int)) := HM.out ▸ (box_cells (D29.out.boxes hp).1).1; have b29 : r29 < 2 := (by have := hr29 (by omega); omega); clear hv29 hf29 ht29 hu29) | (go_at_call 81; obtain ⟨t28, ht28, hc28, hg28⟩ := (D0.out.below (Below.refl _ _).drew).cur; refine (holder_any p ad n c V t28 _ (by omega) hn hc28).mono ?_; clear hc28; rintro e w128 ⟨⟨s28, rfl, hs28, hF28⟩, ⟨u28, hu28, hv28, hT28⟩, hf28⟩; have D28 : DrH w w128 p lo ad n c V t 4 B K ao co al cl ac cc u28 := Dr.step (D0.out.below (Below.refl _ _).drew) hlo ⟨u28, by omega, hv28, rfl⟩ hf28; have k28 : w128.cell? ⟨w.heap.size, 0, none⟩ = some (.int .i64 (m : Int)) := HM.out ▸ (box_cells (D28.out.boxes hp).1).1; clear hv28 hf28 ht28 hu28))
    clear hq29 hr29; go_wp2; refine bodyPost_ret (v := .agg #[.int .i64 1, .int .i64 0, .string s28, .int .i64 (IntKind.i64.wrap (1 + (r29 : Int))), .slice a30 L30.length c30, .string ⟨#[]⟩]) (by simp [results, Tryz.results54, go_sem, e0, e1, e2, e3, e4, e5]) rfl ?_; have dn := D30.out.done HC.out (.int .i64 1) (.int .i64 0) (.string s28) (.int .i64 (IntKind.i64.wrap (1 + (r29 : Int)))) (.slice a30 L30.length c30) (.string ⟨#[]⟩)
    have hX : eventF n V t B = (⟨1, 0, s28, IntKind.i64.wrap (1 + (r29 : Int)), L30, ⟨#[]⟩⟩, u30) := by
     have hBm : B.n.toNat = m := by have := HM.out; omega
     simp only [eventF, evW, evL, evG, evB, evD, evE, hBm, ← hgA.out, ← hFA.out, ← hTA.out, ← hg30.out, ← hF30.out, ← hT30.out, ← hg29.out, ← hF29.out, ← hT29.out, ← hg28.out, ← hF28.out, ← hT28.out]
     repeat (first | rw [if_pos (by omega)] | rw [if_neg (by omega)] | rw [if_pos True.intro])
    exact ⟨⟨_, ⟨1, 0, s28, IntKind.i64.wrap (1 + (r29 : Int)), L30, ⟨#[]⟩⟩, rfl, ⟨_, rfl, owns_low (row_fr hoL.out (putE_fr _ _ _ _ _ _ _ _) (by omega)) (by omega)⟩, ⟨(by omega : s28.size ≤ 20), Nat.zero_le _, hl30⟩, (congrArg Prod.fst hX).symm⟩, (dn.1.mono (by omega)).to (congrArg Prod.snd hX).symm, dn.2⟩
  iterate 4
   ·
    go_wp2
    go_region_held3 (fun w' => w'.cell? ⟨w.heap.size, 0, none⟩ = some (.int .i64 B.n)) (go_keep)
     (first | (go_at_call 53; obtain ⟨t47, ht47, hc47, hg47⟩ := D46.out.cur; refine (pick_any p ad n c V t47 B.n _ (by omega) hn (by omega) hc47).mono ?_; clear hc47; rintro e w147 ⟨⟨r47, rfl, hq47, hr47, hF47⟩, ⟨u47, hu47, hv47, hT47⟩, hf47⟩; have D47 : DrH w w147 p lo ad n c V t 6 B K ao co al cl ac cc u47 := Dr.step D46.out hlo ⟨u47, by omega, hv47, rfl⟩ hf47; have k47 : w147.cell? ⟨w.heap.size, 0, none⟩ = some (.int .i64 B.n) := (box_cells (D47.out.boxes hp).1).1; obtain ⟨-, -, ⟨e0, e1, e2, e3, e4, e5⟩, f0, f1, f2, f3, f4, f5⟩ := DrH.facts D47 hp; clear hv47 hf47 ht47 hu47) | (go_at_call 53; obtain ⟨t46, ht46, hc46, hg46⟩ := (D0.out.below (Below.refl _ _).drew).cur; refine (pick_any p ad n c V t46 4 _ (by omega) hn (by omega) hc46).mono ?_; clear hc46; rintro e w146 ⟨⟨r46, rfl, hq46, hr46, hF46⟩, ⟨u46, hu46, hv46, hT46⟩, hf46⟩; have D46 : DrH w w146 p lo ad n c V t 4 B K ao co al cl ac cc u46 := Dr.step (D0.out.below (Below.refl _ _).drew) hlo ⟨u46, by omega, hv46, rfl⟩ hf46; have k46 : w146.cell? ⟨w.heap.size, 0, none⟩ = some (.int .i64 B.n) := (box_cells (D46.out.boxes hp).1).1; have b46 : r46 < 4 := (by have := hr46 (by omega); omega); clear hv46 hf46 ht46 hu46))
    clear hq46 hr46 hq47 hr47; go_wp2; refine bodyPost_ret (v := .agg #[.int .i64 (IntKind.i64.wrap (6 + (r46 : Int))), .int .i64 (r47 : Int), .string ⟨#[]⟩, .int .i64 0, .slice none 0 0, .string ⟨#[]⟩]) (by simp [results, Tryz.results54, go_sem, e0, e1, e2, e3, e4, e5]) rfl ?_; have dn := D47.out.done HC.out (.int .i64 (IntKind.i64.wrap (6 + (r46 : Int)))) (.int .i64 (r47 : Int)) (.string ⟨#[]⟩) (.int .i64 0) (.slice none 0 0) (.string ⟨#[]⟩)
    have hX : eventF n V t B = (⟨(IntKind.i64.wrap (6 + (r46 : Int))), (r47 : Int), ⟨#[]⟩, 0, [], ⟨#[]⟩⟩, u47) := by
     simp only [eventF, evW, evL, evG, evB, evD, evE, ← hgA.out, ← hFA.out, ← hTA.out, ← hg47.out, ← hF47.out, ← hT47.out, ← hg46.out, ← hF46.out, ← hT46.out]
     repeat (first | rw [if_pos (by omega)] | rw [if_neg (by omega)] | rw [if_pos True.intro])
    exact ⟨⟨_, ⟨(IntKind.i64.wrap (6 + (r46 : Int))), (r47 : Int), ⟨#[]⟩, 0, [], ⟨#[]⟩⟩, rfl, evO_nil _ _ _ _ _ _ _, ⟨Nat.zero_le _, Nat.zero_le _, Nat.zero_le _⟩, (congrArg Prod.fst hX).symm⟩, (dn.1.mono (by omega)).to (congrArg Prod.snd hX).symm, dn.2⟩
 ·
  have tno : ((B.orders.length : Int) == 0) = false := len0_f' hno; rcases (show r = 0 ∨ r = 1 ∨ r = 2 ∨ r = 3 ∨ r = 10 ∨ r = 11 ∨ r = 12 ∨ r = 13 ∨ (4 ≤ r ∧ r ≤ 9) by omega) with rfl | rfl | rfl | rfl | rfl | rfl | rfl | rfl | hr49
  iterate 3
   ·
    obtain ⟨m, hm⟩ : ∃ m : Nat, B.n = (m : Int) := ⟨B.n.toNat, by omega⟩; have HM : Hid (B.n = (m : Int)) := hm; have hm60 : m ≤ 60 := by have := hb.2; omega
    go_wp2; rw [hm] at p0; clear hm
    go_region_held3 (fun w' => w'.cell? ⟨w.heap.size, 0, none⟩ = some (.int .i64 (m : Int))) (go_keep)
     (first | (go_at_call 82; obtain ⟨t56, ht56, hc56, hg56⟩ := D55.out.cur; refine (list_any p ad n c V t56 m _ (by omega) hn (by omega) hc56).mono ?_; clear hc56; rintro e w156 ⟨⟨l56, L56, rfl, ho56, hl56, hF56⟩, ⟨u56, hu56, hv56, hT56⟩, hf56⟩; have D56 : DrH w w156 p lo ad n c V t 136 B K ao co al cl ac cc u56 := Dr.step D55.out hlo ⟨u56, by omega, hv56, rfl⟩ hf56; have k56 : w156.cell? ⟨w.heap.size, 0, none⟩ = some (.int .i64 (m : Int)) := HM.out ▸ (box_cells (D56.out.boxes hp).1).1; obtain ⟨g56, a56, c56, rfl, -⟩ := ownL_of ho56; have hoL : Hid (w156.ownsRow (w.heap.size + 2) 3 1 (.slice a56 L56.length c56) L56.length (L56.map (Value.int .i64))) := owns_low ho56 (D55.out.boxes hp).2.2; clear ho56; obtain ⟨-, -, ⟨e0, e1, e2, e3, e4, e5⟩, f0, f1, f2, f3, f4, f5⟩ := DrH.facts D56 hp; clear hv56 hf56 ht56 hu56) | (go_at_call 53; obtain ⟨t55, ht55, hc55, hg55⟩ := D54.out.cur; refine (pick_any p ad n c V t55 2 _ (by omega) hn (by omega) hc55).mono ?_; clear hc55; rintro e w155 ⟨⟨r55, rfl, hq55, hr55, hF55⟩, ⟨u55, hu55, hv55, hT55⟩, hf55⟩; have D55 : DrH w w155 p lo ad n c V t 6 B K ao co al cl ac cc u55 := Dr.step D54.out hlo ⟨u55, by omega, hv55, rfl⟩ hf55; have k55 : w155.cell? ⟨w.heap.size, 0, none⟩ = some (.int .i64 (m : Int)) := HM.out ▸ (box_cells (D55.out.boxes hp).1).1; have b55 : r55 < 2 := (by have := hr55 (by omega); omega); clear hv55 hf55 ht55 hu55) | (go_at_call 81; obtain ⟨t54, ht54, hc54, hg54⟩ := (D0.out.below (Below.refl _ _).drew).cur; refine (holder_any p ad n c V t54 _ (by omega) hn hc54).mono ?_; clear hc54; rintro e w154 ⟨⟨s54, rfl, hs54, hF54⟩, ⟨u54, hu54, hv54, hT54⟩, hf54⟩; have D54 : DrH w w154 p lo ad n c V t 4 B K ao co al cl ac cc u54 := Dr.step (D0.out.below (Below.refl _ _).drew) hlo ⟨u54, by omega, hv54, rfl⟩ hf54; have k54 : w154.cell? ⟨w.heap.size, 0, none⟩ = some (.int .i64 (m : Int)) := HM.out ▸ (box_cells (D54.out.boxes hp).1).1; clear hv54 hf54 ht54 hu54))
    clear hq55 hr55; go_wp2; refine bodyPost_ret (v := .agg #[.int .i64 1, .int .i64 0, .string s54, .int .i64 (IntKind.i64.wrap (1 + (r55 : Int))), .slice a56 L56.length c56, .string ⟨#[]⟩]) (by simp [results, Tryz.results54, go_sem, e0, e1, e2, e3, e4, e5]) rfl ?_; have dn := D56.out.done HC.out (.int .i64 1) (.int .i64 0) (.string s54) (.int .i64 (IntKind.i64.wrap (1 + (r55 : Int)))) (.slice a56 L56.length c56) (.string ⟨#[]⟩)
    have hX : eventF n V t B = (⟨1, 0, s54, IntKind.i64.wrap (1 + (r55 : Int)), L56, ⟨#[]⟩⟩, u56) := by
     have hBm : B.n.toNat = m := by have := HM.out; omega
     simp only [eventF, evW, evL, evG, evB, evD, evE, hBm, ← hgA.out, ← hFA.out, ← hTA.out, ← hg56.out, ← hF56.out, ← hT56.out, ← hg55.out, ← hF55.out, ← hT55.out, ← hg54.out, ← hF54.out, ← hT54.out]
     repeat (first | rw [if_pos (by omega)] | rw [if_neg (by omega)] | rw [if_pos True.intro])
    exact ⟨⟨_, ⟨1, 0, s54, IntKind.i64.wrap (1 + (r55 : Int)), L56, ⟨#[]⟩⟩, rfl, ⟨_, rfl, owns_low (row_fr hoL.out (putE_fr _ _ _ _ _ _ _ _) (by omega)) (by omega)⟩, ⟨(by omega : s54.size ≤ 20), Nat.zero_le _, hl56⟩, (congrArg Prod.fst hX).symm⟩, (dn.1.mono (by omega)).to (congrArg Prod.snd hX).symm, dn.2⟩
  ·
   go_wp2_with fail
   obtain ⟨t63, ht63, hc63, hg63⟩ := D0.out.cur; refine (pick_any p ad n c V t63 B.n _ (by omega) hn (by omega) hc63).mono ?_; clear hc63; rintro e w163 ⟨⟨r63, rfl, hq63, hr63, hF63⟩, ⟨u63, hu63, hv63, hT63⟩, hf63⟩; have D63 : DrH w w163 p lo ad n c V t 4 B K ao co al cl ac cc u63 := D0.out.step hlo ⟨u63, by omega, hv63, rfl⟩ hf63; clear hv63 hf63 ht63 hu63 D0; clear zb zr p0 p1 p2 p3 e0 e1 e2 e3 e4 e5 f0 f1 f2 f3 f4 f5; obtain ⟨⟨zb, zr⟩, ⟨p0, p1, p2, p3⟩, ⟨e0, e1, e2, e3, e4, e5⟩, f0, f1, f2, f3, f4, f5⟩ := DrH.facts D63 hp; clear hq63 hr63; go_wp2; refine bodyPost_ret (v := .agg #[.int .i64 6, .int .i64 (r63 : Int), .string ⟨#[]⟩, .int .i64 0, .slice none 0 0, .string ⟨#[]⟩]) (by simp [results, Tryz.results54, go_sem, e0, e1, e2, e3, e4, e5]) rfl ?_; have dn := D63.out.done HC.out (.int .i64 6) (.int .i64 (r63 : Int)) (.string ⟨#[]⟩) (.int .i64 0) (.slice none 0 0) (.string ⟨#[]⟩)
   have hX : eventF n V t B = (⟨6, (r63 : Int), ⟨#[]⟩, 0, [], ⟨#[]⟩⟩, u63) := by
    simp only [eventF, evW, evL, evG, evB, evD, evE, ← hgA.out, ← hFA.out, ← hTA.out, ← hg63.out, ← hF63.out, ← hT63.out]
    repeat (first | rw [if_pos (by omega)] | rw [if_neg (by omega)] | rw [if_pos True.intro])
   exact ⟨⟨_, ⟨6, (r63 : Int), ⟨#[]⟩, 0, [], ⟨#[]⟩⟩, rfl, evO_nil _ _ _ _ _ _ _, ⟨Nat.zero_le _, Nat.zero_le _, Nat.zero_le _⟩, (congrArg Prod.fst hX).symm⟩, (dn.1.mono (by omega)).to (congrArg Prod.snd hX).symm, dn.2⟩
  iterate 4
   ·
    go_wp2
    go_region_held3 (fun w' => w'.cell? ⟨w.heap.size, 0, none⟩ = some (.int .i64 B.n)) (go_keep)
     (first | (go_at_call 53; obtain ⟨t65, ht65, hc65, hg65⟩ := D64.out.cur; refine (pick_any p ad n c V t65 B.n _ (by omega) hn (by omega) hc65).mono ?_; clear hc65; rintro e w165 ⟨⟨r65, rfl, hq65, hr65, hF65⟩, ⟨u65, hu65, hv65, hT65⟩, hf65⟩; have D65 : DrH w w165 p lo ad n c V t 6 B K ao co al cl ac cc u65 := Dr.step D64.out hlo ⟨u65, by omega, hv65, rfl⟩ hf65; have k65 : w165.cell? ⟨w.heap.size, 0, none⟩ = some (.int .i64 B.n) := (box_cells (D65.out.boxes hp).1).1; obtain ⟨-, -, ⟨e0, e1, e2, e3, e4, e5⟩, f0, f1, f2, f3, f4, f5⟩ := DrH.facts D65 hp; clear hv65 hf65 ht65 hu65) | (go_at_call 53; obtain ⟨t64, ht64, hc64, hg64⟩ := (D0.out.below (Below.refl _ _).drew).cur; refine (pick_any p ad n c V t64 4 _ (by omega) hn (by omega) hc64).mono ?_; clear hc64; rintro e w164 ⟨⟨r64, rfl, hq64, hr64, hF64⟩, ⟨u64, hu64, hv64, hT64⟩, hf64⟩; have D64 : DrH w w164 p lo ad n c V t 4 B K ao co al cl ac cc u64 := Dr.step (D0.out.below (Below.refl _ _).drew) hlo ⟨u64, by omega, hv64, rfl⟩ hf64; have k64 : w164.cell? ⟨w.heap.size, 0, none⟩ = some (.int .i64 B.n) := (box_cells (D64.out.boxes hp).1).1; have b64 : r64 < 4 := (by have := hr64 (by omega); omega); clear hv64 hf64 ht64 hu64))
    clear hq64 hr64 hq65 hr65; go_wp2; refine bodyPost_ret (v := .agg #[.int .i64 (IntKind.i64.wrap (6 + (r64 : Int))), .int .i64 (r65 : Int), .string ⟨#[]⟩, .int .i64 0, .slice none 0 0, .string ⟨#[]⟩]) (by simp [results, Tryz.results54, go_sem, e0, e1, e2, e3, e4, e5]) rfl ?_; have dn := D65.out.done HC.out (.int .i64 (IntKind.i64.wrap (6 + (r64 : Int)))) (.int .i64 (r65 : Int)) (.string ⟨#[]⟩) (.int .i64 0) (.slice none 0 0) (.string ⟨#[]⟩)
    have hX : eventF n V t B = (⟨(IntKind.i64.wrap (6 + (r64 : Int))), (r65 : Int), ⟨#[]⟩, 0, [], ⟨#[]⟩⟩, u65) := by
     simp only [eventF, evW, evL, evG, evB, evD, evE, ← hgA.out, ← hFA.out, ← hTA.out, ← hg65.out, ← hF65.out, ← hT65.out, ← hg64.out, ← hF64.out, ← hT64.out]
     repeat (first | rw [if_pos (by omega)] | rw [if_neg (by omega)] | rw [if_pos True.intro])
    exact ⟨⟨_, ⟨(IntKind.i64.wrap (6 + (r64 : Int))), (r65 : Int), ⟨#[]⟩, 0, [], ⟨#[]⟩⟩, rfl, evO_nil _ _ _ _ _ _ _, ⟨Nat.zero_le _, Nat.zero_le _, Nat.zero_le _⟩, (congrArg Prod.fst hX).symm⟩, (dn.1.mono (by omega)).to (congrArg Prod.snd hX).symm, dn.2⟩
  ·
   have r0 : ((r : Int) == 0) = false := beq_eq_false_iff_ne.2 (by omega); have r1 : ((r : Int) == 1) = false := beq_eq_false_iff_ne.2 (by omega); have r2 : ((r : Int) == 2) = false := beq_eq_false_iff_ne.2 (by omega); have r3 : ((r : Int) == 3) = false := beq_eq_false_iff_ne.2 (by omega)
   go_upto_if 52 with (fail)
   go_cut [52] (fun t wc => t = .bool true ∧ wc = w1)
   case first =>
    rcases (show r = 4 ∨ r = 5 ∨ r = 6 ∨ r = 7 ∨ r = 8 ∨ r = 9 by omega) with rfl | rfl | rfl | rfl | rfl | rfl
    all_goals (
     go_wp2
     go_meet
     case rel => exact ⟨rfl, rfl⟩)
   case rest =>
    obtain ⟨rfl, hwc⟩ := hcut; obtain rfl := hwc.symm
    go_wp2_with fail
    obtain ⟨t1, ht1, hc1, hg1⟩ := D0.out.cur; refine (pick_any p ad n c V t1 (B.orders.length : Int) _ (by omega) hn (by omega) hc1).mono ?_; clear hc1; rintro e w101 ⟨⟨r1, rfl, hq1, hr1, hF1⟩, ⟨u1, hu1, hv1, hT1⟩, hf1⟩; have D1 : DrH w w101 p lo ad n c V t 4 B K ao co al cl ac cc u1 := D0.out.step hlo ⟨u1, by omega, hv1, rfl⟩ hf1; clear hv1 hf1 ht1 hu1 D0; clear zb zr p0 p1 p2 p3 e0 e1 e2 e3 e4 e5 f0 f1 f2 f3 f4 f5; obtain ⟨⟨zb, zr⟩, ⟨p0, p1, p2, p3⟩, ⟨e0, e1, e2, e3, e4, e5⟩, f0, f1, f2, f3, f4, f5⟩ := DrH.facts D1 hp
    have hi : r1 < B.orders.length := by
     by_cases h1 : (B.orders.length : Int) ≤ 1
     · have := hq1 h1; omega
     · have := hr1 (by omega); omega
    clear hq1 hr1; obtain ⟨og, -, -⟩ := ord_facts D1.out.own hi; obtain ⟨g0, g1, g2, g3, -⟩ := og; have gl : K.G < w101.heap.size := World.block_lt_of_cell? _ _ g0; have hhs : (bX B r1).holder.size ≤ 20 := HB.out.2 r1 hi; have zp2 : p < w101.heap.size := by omega
    have hao := book_head D1.out.own (by omega); rw [hao] at p1; have i0 : (0 : Int) ≤ (r1 : Int) := by omega
    have i1 : (r1 : Int) < (B.orders.length : Int) := by omega
    go_wp2_with fail
    have OC := below1 w101 (.cells #[.string (bX B r1).holder, .int .i64 (bX B r1).kind, .slice (K.sa r1) (bX B r1).secs.length (K.sc r1), .int .i64 (bX B r1).state] 41); have DQ : DrH w (w101.alloc (.cells #[.string (bX B r1).holder, .int .i64 (bX B r1).kind, .slice (K.sa r1) (bX B r1).secs.length (K.sc r1), .int .i64 (bX B r1).state] 41)) p lo ad n c V t 4 B K ao co al cl ac cc u1 := D1.out.below OC; have xo : (w101.alloc (.cells #[.string (bX B r1).holder, .int .i64 (bX B r1).kind, .slice (K.sa r1) (bX B r1).secs.length (K.sc r1), .int .i64 (bX B r1).state] 41)).heap[w101.heap.size]? = some (.cells #[.string (bX B r1).holder, .int .i64 (bX B r1).kind, .slice (K.sa r1) (bX B r1).secs.length (K.sc r1), .int .i64 (bX B r1).state] 41 (0, 0)) := Deep.blk_alloc_new _ _; have zo : w101.heap.size < (w101.alloc (.cells #[.string (bX B r1).holder, .int .i64 (bX B r1).kind, .slice (K.sa r1) (bX B r1).secs.length (K.sc r1), .int .i64 (bX B r1).state] 41)).heap.size := by simp
    obtain ⟨WQ, hWQ⟩ : ∃ WQ, WQ = w101.alloc (.cells #[.string (bX B r1).holder, .int .i64 (bX B r1).kind, .slice (K.sa r1) (bX B r1).secs.length (K.sc r1), .int .i64 (bX B r1).state] 41) := ⟨_, rfl⟩; rw [← hWQ] at DQ xo zo ⊢; clear hWQ OC g0 g1 g2 g3 gl i0 i1 hao D1; clear zb zr p0 p1 p2 p3 e0 e1 e2 e3 e4 e5 f0 f1 f2 f3 f4 f5; obtain ⟨⟨zb, zr⟩, ⟨p0, p1, p2, p3⟩, ⟨e0, e1, e2, e3, e4, e5⟩, f0, f1, f2, f3, f4, f5⟩ := DrH.facts DQ hp; obtain ⟨o0, o1, o2, o3⟩ := box_cells xo; obtain ⟨t2, ht2, hc2, hg2⟩ := DQ.out.cur; refine (pick_any p ad n c V t2 10 _ (by omega) hn (by omega) hc2).mono ?_; clear hc2; rintro e w102 ⟨⟨r2, rfl, hq2, hr2, hF2⟩, ⟨u2, hu2, hv2, hT2⟩, hf2⟩; have D2 : DrH w w102 p lo ad n c V t 6 B K ao co al cl ac cc u2 := DQ.out.step hlo ⟨u2, by omega, hv2, rfl⟩ hf2; have xo2 := (hf2.block _ zo (by omega)).trans xo; have zo2 : w101.heap.size < w102.heap.size := Nat.lt_of_lt_of_le zo hf2.size; clear xo zo o0 o1 o2 o3; have xo := xo2; have zo := zo2; clear xo2 zo2; obtain ⟨o0, o1, o2, o3⟩ := box_cells xo; clear hv2 hf2 ht2 hu2 DQ; clear zb zr p0 p1 p2 p3 e0 e1 e2 e3 e4 e5 f0 f1 f2 f3 f4 f5; obtain ⟨⟨zb, zr⟩, ⟨p0, p1, p2, p3⟩, ⟨e0, e1, e2, e3, e4, e5⟩, f0, f1, f2, f3, f4, f5⟩ := DrH.facts D2 hp; clear hq2 hr2
    by_cases hx : (r2 : Int) = 0
    ·
     have tx : ((r2 : Int) == 0) = true := by simpa using hx
     have HX1 : Hid ((r2 : Int) = 0) := hx; clear hx
     go_wp2_with fail
     obtain ⟨t3, ht3, hc3, hg3⟩ := D2.out.cur; refine (holder_any p ad n c V t3 _ (by omega) hn hc3).mono ?_; clear hc3; rintro e w103 ⟨⟨s3, rfl, hs3, hF3⟩, ⟨u3, hu3, hv3, hT3⟩, hf3⟩; have D3 : DrH w w103 p lo ad n c V t 8 B K ao co al cl ac cc u3 := D2.out.step hlo ⟨u3, by omega, hv3, rfl⟩ hf3; have xo2 := (hf3.block _ zo (by omega)).trans xo; have zo2 : w101.heap.size < w103.heap.size := Nat.lt_of_lt_of_le zo hf3.size; clear xo zo o0 o1 o2 o3; have xo := xo2; have zo := zo2; clear xo2 zo2; obtain ⟨o0, o1, o2, o3⟩ := box_cells xo; clear hv3 hf3 ht3 hu3 D2; clear zb zr p0 p1 p2 p3 e0 e1 e2 e3 e4 e5 f0 f1 f2 f3 f4 f5; obtain ⟨⟨zb, zr⟩, ⟨p0, p1, p2, p3⟩, ⟨e0, e1, e2, e3, e4, e5⟩, f0, f1, f2, f3, f4, f5⟩ := DrH.facts D3 hp
     by_cases st1 : (bX B r1).state = 1
     ·
      have ta : ((bX B r1).state == 1) = true := by simpa using st1
      have tb : ((bX B r1).state == 2) = false := by rw [st1]; rfl
      go_wp2_with fail
      obtain ⟨t4, ht4, hc4, hg4⟩ := D3.out.cur; refine (pick_any p ad n c V t4 6 _ (by omega) hn (by omega) hc4).mono ?_; clear hc4; rintro e w104 ⟨⟨r4, rfl, hq4, hr4, hF4⟩, ⟨u4, hu4, hv4, hT4⟩, hf4⟩; have D4 : DrH w w104 p lo ad n c V t 10 B K ao co al cl ac cc u4 := D3.out.step hlo ⟨u4, by omega, hv4, rfl⟩ hf4; have xo2 := (hf4.block _ zo (by omega)).trans xo; have zo2 : w101.heap.size < w104.heap.size := Nat.lt_of_lt_of_le zo hf4.size; clear xo zo o0 o1 o2 o3; have xo := xo2; have zo := zo2; clear xo2 zo2; obtain ⟨o0, o1, o2, o3⟩ := box_cells xo; clear hv4 hf4 ht4 hu4 D3; clear zb zr p0 p1 p2 p3 e0 e1 e2 e3 e4 e5 f0 f1 f2 f3 f4 f5; obtain ⟨⟨zb, zr⟩, ⟨p0, p1, p2, p3⟩, ⟨e0, e1, e2, e3, e4, e5⟩, f0, f1, f2, f3, f4, f5⟩ := DrH.facts D4 hp; clear hq4 hr4
      by_cases hx : (0 : Int) < (r4 : Int)
      ·
       go_wp2; refine bodyPost_ret (v := .agg #[.int .i64 2, .int .i64 (r1 : Int), .string ⟨#[]⟩, .int .i64 0, .slice none 0 0, .string ⟨#[]⟩]) (by simp [results, Tryz.results54, go_sem, e0, e1, e2, e3, e4, e5]) rfl ?_; have dn := D4.out.done HC.out (.int .i64 2) (.int .i64 (r1 : Int)) (.string ⟨#[]⟩) (.int .i64 0) (.slice none 0 0) (.string ⟨#[]⟩)
       have hX : eventF n V t B = (⟨2, (r1 : Int), ⟨#[]⟩, 0, [], ⟨#[]⟩⟩, u4) := by
        have qHX1 := HX1.out; simp only [eventF, evW, evL, evG, evB, evD, evE, ← hgA.out, ← hFA.out, ← hTA.out, ← hg1.out, ← hF1.out, ← hT1.out, ← hg2.out, ← hF2.out, ← hT2.out, ← hg3.out, ← hF3.out, ← hT3.out, ← hg4.out, ← hF4.out, ← hT4.out]
        repeat (first | rw [if_pos (by omega)] | rw [if_neg (by omega)] | rw [if_pos True.intro])
       exact ⟨⟨_, ⟨2, (r1 : Int), ⟨#[]⟩, 0, [], ⟨#[]⟩⟩, rfl, evO_nil _ _ _ _ _ _ _, ⟨Nat.zero_le _, Nat.zero_le _, Nat.zero_le _⟩, (congrArg Prod.fst hX).symm⟩, (dn.1.mono (by omega)).to (congrArg Prod.snd hX).symm, dn.2⟩
      ·
       go_wp2_with fail
       obtain ⟨t5, ht5, hc5, hg5⟩ := D4.out.cur; refine (pick_any p ad n c V t5 5 _ (by omega) hn (by omega) hc5).mono ?_; clear hc5; rintro e w105 ⟨⟨r5, rfl, hq5, hr5, hF5⟩, ⟨u5, hu5, hv5, hT5⟩, hf5⟩; have D5 : DrH w w105 p lo ad n c V t 12 B K ao co al cl ac cc u5 := D4.out.step hlo ⟨u5, by omega, hv5, rfl⟩ hf5; have xo2 := (hf5.block _ zo (by omega)).trans xo; have zo2 : w101.heap.size < w105.heap.size := Nat.lt_of_lt_of_le zo hf5.size; clear xo zo o0 o1 o2 o3; have xo := xo2; have zo := zo2; clear xo2 zo2; obtain ⟨o0, o1, o2, o3⟩ := box_cells xo; clear hv5 hf5 ht5 hu5 D4; clear zb zr p0 p1 p2 p3 e0 e1 e2 e3 e4 e5 f0 f1 f2 f3 f4 f5; obtain ⟨⟨zb, zr⟩, ⟨p0, p1, p2, p3⟩, ⟨e0, e1, e2, e3, e4, e5⟩, f0, f1, f2, f3, f4, f5⟩ := DrH.facts D5 hp; clear hq5 hr5
       by_cases hx : (0 : Int) < (r5 : Int)
       ·
        go_wp2; refine bodyPost_ret (v := .agg #[.int .i64 4, .int .i64 (r1 : Int), .string s3, .int .i64 0, .slice none 0 0, .string ⟨#[]⟩]) (by simp [results, Tryz.results54, go_sem, e0, e1, e2, e3, e4, e5]) rfl ?_; have dn := D5.out.done HC.out (.int .i64 4) (.int .i64 (r1 : Int)) (.string s3) (.int .i64 0) (.slice none 0 0) (.string ⟨#[]⟩)
        have hX : eventF n V t B = (⟨4, (r1 : Int), s3, 0, [], ⟨#[]⟩⟩, u5) := by
         have qHX1 := HX1.out; simp only [eventF, evW, evL, evG, evB, evD, evE, ← hgA.out, ← hFA.out, ← hTA.out, ← hg1.out, ← hF1.out, ← hT1.out, ← hg2.out, ← hF2.out, ← hT2.out, ← hg3.out, ← hF3.out, ← hT3.out, ← hg4.out, ← hF4.out, ← hT4.out, ← hg5.out, ← hF5.out, ← hT5.out]
         repeat (first | rw [if_pos (by omega)] | rw [if_neg (by omega)] | rw [if_pos True.intro])
        exact ⟨⟨_, ⟨4, (r1 : Int), s3, 0, [], ⟨#[]⟩⟩, rfl, evO_nil _ _ _ _ _ _ _, ⟨(by omega : s3.size ≤ 20), Nat.zero_le _, Nat.zero_le _⟩, (congrArg Prod.fst hX).symm⟩, (dn.1.mono (by omega)).to (congrArg Prod.snd hX).symm, dn.2⟩
       ·
        go_wp2; refine bodyPost_ret (v := .agg #[.int .i64 5, .int .i64 (r1 : Int), .string ⟨#[]⟩, .int .i64 0, .slice none 0 0, .string ⟨#[]⟩]) (by simp [results, Tryz.results54, go_sem, e0, e1, e2, e3, e4, e5]) rfl ?_; have dn := D5.out.done HC.out (.int .i64 5) (.int .i64 (r1 : Int)) (.string ⟨#[]⟩) (.int .i64 0) (.slice none 0 0) (.string ⟨#[]⟩)
        have hX : eventF n V t B = (⟨5, (r1 : Int), ⟨#[]⟩, 0, [], ⟨#[]⟩⟩, u5) := by
         have qHX1 := HX1.out; simp only [eventF, evW, evL, evG, evB, evD, evE, ← hgA.out, ← hFA.out, ← hTA.out, ← hg1.out, ← hF1.out, ← hT1.out, ← hg2.out, ← hF2.out, ← hT2.out, ← hg3.out, ← hF3.out, ← hT3.out, ← hg4.out, ← hF4.out, ← hT4.out, ← hg5.out, ← hF5.out, ← hT5.out]
         repeat (first | rw [if_pos (by omega)] | rw [if_neg (by omega)] | rw [if_pos True.intro])
        exact ⟨⟨_, ⟨5, (r1 : Int), ⟨#[]⟩, 0, [], ⟨#[]⟩⟩, rfl, evO_nil _ _ _ _ _ _ _, ⟨Nat.zero_le _, Nat.zero_le _, Nat.zero_le _⟩, (congrArg Prod.fst hX).symm⟩, (dn.1.mono (by omega)).to (congrArg Prod.snd hX).symm, dn.2⟩
     ·
      have ta : ((bX B r1).state == 1) = false := by simpa using st1
      by_cases st2 : (bX B r1).state = 2
      ·
       have tb : ((bX B r1).state == 2) = true := by simpa using st2
       go_wp2_with fail
       obtain ⟨t6, ht6, hc6, hg6⟩ := D3.out.cur; refine (pick_any p ad n c V t6 6 _ (by omega) hn (by omega) hc6).mono ?_; clear hc6; rintro e w106 ⟨⟨r6, rfl, hq6, hr6, hF6⟩, ⟨u6, hu6, hv6, hT6⟩, hf6⟩; have D6 : DrH w w106 p lo ad n c V t 10 B K ao co al cl ac cc u6 := D3.out.step hlo ⟨u6, by omega, hv6, rfl⟩ hf6; have xo2 := (hf6.block _ zo (by omega)).trans xo; have zo2 : w101.heap.size < w106.heap.size := Nat.lt_of_lt_of_le zo hf6.size; clear xo zo o0 o1 o2 o3; have xo := xo2; have zo := zo2; clear xo2 zo2; obtain ⟨o0, o1, o2, o3⟩ := box_cells xo; clear hv6 hf6 ht6 hu6 D3; clear zb zr p0 p1 p2 p3 e0 e1 e2 e3 e4 e5 f0 f1 f2 f3 f4 f5; obtain ⟨⟨zb, zr⟩, ⟨p0, p1, p2, p3⟩, ⟨e0, e1, e2, e3, e4, e5⟩, f0, f1, f2, f3, f4, f5⟩ := DrH.facts D6 hp; clear hq6 hr6
       by_cases hx : (0 : Int) < (r6 : Int)
       ·
        go_wp2_with fail
        refine (specOrderText_any _ B (r1 : Int) _ (Nat.le_trans HB.out.1.o (by decide)) (fun q hq => ⟨Nat.le_trans (HB.out.1.s q hq) (by decide), Nat.le_trans (HB.out.2 q hq) (by decide)⟩) ⟨hb.1, by have := hb.2; omega⟩ D6.out.own.bookAt).mono ?_; rintro e w107 ⟨⟨y7, rfl, hy7⟩, bb7⟩; have ly7 : y7.size ≤ 399 := by rw [← bl_size]; exact textIs_len hy7
        have D7 : DrH w w107 p lo ad n c V t 10 B K ao co al cl ac cc u6 := D6.out.below bb7; have xo2 := (bb7.block _ zo).trans xo; have zo2 : w101.heap.size < w107.heap.size := Nat.lt_of_lt_of_le zo bb7.size; clear xo zo o0 o1 o2 o3; have xo := xo2; have zo := zo2; clear xo2 zo2; obtain ⟨o0, o1, o2, o3⟩ := box_cells xo; have hY7 : Hid (y7 = textB B (r1 : Int)) := textB_of hy7; clear bb7 hy7 D6; clear zb zr p0 p1 p2 p3 e0 e1 e2 e3 e4 e5 f0 f1 f2 f3 f4 f5; obtain ⟨⟨zb, zr⟩, ⟨p0, p1, p2, p3⟩, ⟨e0, e1, e2, e3, e4, e5⟩, f0, f1, f2, f3, f4, f5⟩ := DrH.facts D7 hp
        go_wp2_with fail
        obtain ⟨t8, ht8, hc8, hg8⟩ := D7.out.cur; refine (pick_any p ad n c V t8 8 _ (by omega) hn (by omega) hc8).mono ?_; clear hc8; rintro e w108 ⟨⟨r8, rfl, hq8, hr8, hF8⟩, ⟨u8, hu8, hv8, hT8⟩, hf8⟩; have D8 : DrH w w108 p lo ad n c V t 12 B K ao co al cl ac cc u8 := D7.out.step hlo ⟨u8, by omega, hv8, rfl⟩ hf8; have xo2 := (hf8.block _ zo (by omega)).trans xo; have zo2 : w101.heap.size < w108.heap.size := Nat.lt_of_lt_of_le zo hf8.size; clear xo zo o0 o1 o2 o3; have xo := xo2; have zo := zo2; clear xo2 zo2; obtain ⟨o0, o1, o2, o3⟩ := box_cells xo; clear hv8 hf8 ht8 hu8 D7; clear zb zr p0 p1 p2 p3 e0 e1 e2 e3 e4 e5 f0 f1 f2 f3 f4 f5; obtain ⟨⟨zb, zr⟩, ⟨p0, p1, p2, p3⟩, ⟨e0, e1, e2, e3, e4, e5⟩, f0, f1, f2, f3, f4, f5⟩ := DrH.facts D8 hp; clear hq8 hr8
        by_cases hx : (r8 : Int) = 0
        ·
         have tx : ((r8 : Int) == 0) = true := by simpa using hx
         have hadd := fun W => run_string_add_sum (P := Tryz.prog) W y7 ⟨#[120]⟩ (by have : (ByteArray.mk #[120]).size = 1 := rfl; omega); have lz : (y7 ++ ⟨#[120]⟩ : ByteArray).size ≤ 400 := by rw [ByteArray.size_append]; have : (ByteArray.mk #[120]).size = 1 := rfl; omega
         have HX2 : Hid ((r8 : Int) = 0) := hx; clear hx; go_wp2; refine bodyPost_ret (v := .agg #[.int .i64 3, .int .i64 (r1 : Int), .string s3, .int .i64 0, .slice none 0 0, .string (y7 ++ ⟨#[120]⟩)]) (by simp [results, Tryz.results54, go_sem, e0, e1, e2, e3, e4, e5]) rfl ?_; have dn := D8.out.done HC.out (.int .i64 3) (.int .i64 (r1 : Int)) (.string s3) (.int .i64 0) (.slice none 0 0) (.string (y7 ++ ⟨#[120]⟩))
         have hX : eventF n V t B = (⟨3, (r1 : Int), s3, 0, [], (y7 ++ (⟨#[120]⟩ : ByteArray))⟩, u8) := by
          have qHX1 := HX1.out; have qHX2 := HX2.out; simp only [eventF, evW, evL, evG, evB, evD, evE, ← hgA.out, ← hFA.out, ← hTA.out, ← hg1.out, ← hF1.out, ← hT1.out, ← hg2.out, ← hF2.out, ← hT2.out, ← hg3.out, ← hF3.out, ← hT3.out, ← hg6.out, ← hF6.out, ← hT6.out, ← hY7.out, ← hg8.out, ← hF8.out, ← hT8.out]
          repeat (first | rw [if_pos (by omega)] | rw [if_neg (by omega)] | rw [if_pos True.intro])
         exact ⟨⟨_, ⟨3, (r1 : Int), s3, 0, [], (y7 ++ (⟨#[120]⟩ : ByteArray))⟩, rfl, evO_nil _ _ _ _ _ _ _, ⟨(by omega : s3.size ≤ 20), lz, Nat.zero_le _⟩, (congrArg Prod.fst hX).symm⟩, (dn.1.mono (by omega)).to (congrArg Prod.snd hX).symm, dn.2⟩
        ·
         have tx : ((r8 : Int) == 0) = false := by simpa using hx
         have HX3 : Hid (¬ ((r8 : Int) = 0)) := hx; clear hx; go_wp2; refine bodyPost_ret (v := .agg #[.int .i64 3, .int .i64 (r1 : Int), .string s3, .int .i64 0, .slice none 0 0, .string y7]) (by simp [results, Tryz.results54, go_sem, e0, e1, e2, e3, e4, e5]) rfl ?_; have dn := D8.out.done HC.out (.int .i64 3) (.int .i64 (r1 : Int)) (.string s3) (.int .i64 0) (.slice none 0 0) (.string y7)
         have hX : eventF n V t B = (⟨3, (r1 : Int), s3, 0, [], y7⟩, u8) := by
          have qHX1 := HX1.out; have qHX3 := HX3.out; simp only [eventF, evW, evL, evG, evB, evD, evE, ← hgA.out, ← hFA.out, ← hTA.out, ← hg1.out, ← hF1.out, ← hT1.out, ← hg2.out, ← hF2.out, ← hT2.out, ← hg3.out, ← hF3.out, ← hT3.out, ← hg6.out, ← hF6.out, ← hT6.out, ← hY7.out, ← hg8.out, ← hF8.out, ← hT8.out]
          repeat (first | rw [if_pos (by omega)] | rw [if_neg (by omega)] | rw [if_pos True.intro])
         exact ⟨⟨_, ⟨3, (r1 : Int), s3, 0, [], y7⟩, rfl, evO_nil _ _ _ _ _ _ _, ⟨(by omega : s3.size ≤ 20), (by omega : y7.size ≤ 400), Nat.zero_le _⟩, (congrArg Prod.fst hX).symm⟩, (dn.1.mono (by omega)).to (congrArg Prod.snd hX).symm, dn.2⟩
       ·
        go_wp2_with fail
        obtain ⟨t9, ht9, hc9, hg9⟩ := D6.out.cur; refine (pick_any p ad n c V t9 5 _ (by omega) hn (by omega) hc9).mono ?_; clear hc9; rintro e w109 ⟨⟨r9, rfl, hq9, hr9, hF9⟩, ⟨u9, hu9, hv9, hT9⟩, hf9⟩; have D9 : DrH w w109 p lo ad n c V t 12 B K ao co al cl ac cc u9 := D6.out.step hlo ⟨u9, by omega, hv9, rfl⟩ hf9; have xo2 := (hf9.block _ zo (by omega)).trans xo; have zo2 : w101.heap.size < w109.heap.size := Nat.lt_of_lt_of_le zo hf9.size; clear xo zo o0 o1 o2 o3; have xo := xo2; have zo := zo2; clear xo2 zo2; obtain ⟨o0, o1, o2, o3⟩ := box_cells xo; clear hv9 hf9 ht9 hu9 D6; clear zb zr p0 p1 p2 p3 e0 e1 e2 e3 e4 e5 f0 f1 f2 f3 f4 f5; obtain ⟨⟨zb, zr⟩, ⟨p0, p1, p2, p3⟩, ⟨e0, e1, e2, e3, e4, e5⟩, f0, f1, f2, f3, f4, f5⟩ := DrH.facts D9 hp; clear hq9 hr9
        by_cases hx : (0 : Int) < (r9 : Int)
        ·
         go_wp2; refine bodyPost_ret (v := .agg #[.int .i64 4, .int .i64 (r1 : Int), .string s3, .int .i64 0, .slice none 0 0, .string ⟨#[]⟩]) (by simp [results, Tryz.results54, go_sem, e0, e1, e2, e3, e4, e5]) rfl ?_; have dn := D9.out.done HC.out (.int .i64 4) (.int .i64 (r1 : Int)) (.string s3) (.int .i64 0) (.slice none 0 0) (.string ⟨#[]⟩)
         have hX : eventF n V t B = (⟨4, (r1 : Int), s3, 0, [], ⟨#[]⟩⟩, u9) := by
          have qHX1 := HX1.out; simp only [eventF, evW, evL, evG, evB, evD, evE, ← hgA.out, ← hFA.out, ← hTA.out, ← hg1.out, ← hF1.out, ← hT1.out, ← hg2.out, ← hF2.out, ← hT2.out, ← hg3.out, ← hF3.out, ← hT3.out, ← hg6.out, ← hF6.out, ← hT6.out, ← hg9.out, ← hF9.out, ← hT9.out]
          repeat (first | rw [if_pos (by omega)] | rw [if_neg (by omega)] | rw [if_pos True.intro])
         exact ⟨⟨_, ⟨4, (r1 : Int), s3, 0, [], ⟨#[]⟩⟩, rfl, evO_nil _ _ _ _ _ _ _, ⟨(by omega : s3.size ≤ 20), Nat.zero_le _, Nat.zero_le _⟩, (congrArg Prod.fst hX).symm⟩, (dn.1.mono (by omega)).to (congrArg Prod.snd hX).symm, dn.2⟩
        ·
         go_wp2; refine bodyPost_ret (v := .agg #[.int .i64 5, .int .i64 (r1 : Int), .string ⟨#[]⟩, .int .i64 0, .slice none 0 0, .string ⟨#[]⟩]) (by simp [results, Tryz.results54, go_sem, e0, e1, e2, e3, e4, e5]) rfl ?_; have dn := D9.out.done HC.out (.int .i64 5) (.int .i64 (r1 : Int)) (.string ⟨#[]⟩) (.int .i64 0) (.slice none 0 0) (.string ⟨#[]⟩)
         have hX : eventF n V t B = (⟨5, (r1 : Int), ⟨#[]⟩, 0, [], ⟨#[]⟩⟩, u9) := by
          have qHX1 := HX1.out; simp only [eventF, evW, evL, evG, evB, evD, evE, ← hgA.out, ← hFA.out, ← hTA.out, ← hg1.out, ← hF1.out, ← hT1.out, ← hg2.out, ← hF2.out, ← hT2.out, ← hg3.out, ← hF3.out, ← hT3.out, ← hg6.out, ← hF6.out, ← hT6.out, ← hg9.out, ← hF9.out, ← hT9.out]
          repeat (first | rw [if_pos (by omega)] | rw [if_neg (by omega)] | rw [if_pos True.intro])
         exact ⟨⟨_, ⟨5, (r1 : Int), ⟨#[]⟩, 0, [], ⟨#[]⟩⟩, rfl, evO_nil _ _ _ _ _ _ _, ⟨Nat.zero_le _, Nat.zero_le _, Nat.zero_le _⟩, (congrArg Prod.fst hX).symm⟩, (dn.1.mono (by omega)).to (congrArg Prod.snd hX).symm, dn.2⟩
      ·
       have tb : ((bX B r1).state == 2) = false := by simpa using st2
       go_wp2_with fail
       obtain ⟨t10, ht10, hc10, hg10⟩ := D3.out.cur; refine (pick_any p ad n c V t10 5 _ (by omega) hn (by omega) hc10).mono ?_; clear hc10; rintro e w110 ⟨⟨r10, rfl, hq10, hr10, hF10⟩, ⟨u10, hu10, hv10, hT10⟩, hf10⟩; have D10 : DrH w w110 p lo ad n c V t 10 B K ao co al cl ac cc u10 := D3.out.step hlo ⟨u10, by omega, hv10, rfl⟩ hf10; have xo2 := (hf10.block _ zo (by omega)).trans xo; have zo2 : w101.heap.size < w110.heap.size := Nat.lt_of_lt_of_le zo hf10.size; clear xo zo o0 o1 o2 o3; have xo := xo2; have zo := zo2; clear xo2 zo2; obtain ⟨o0, o1, o2, o3⟩ := box_cells xo; clear hv10 hf10 ht10 hu10 D3; clear zb zr p0 p1 p2 p3 e0 e1 e2 e3 e4 e5 f0 f1 f2 f3 f4 f5; obtain ⟨⟨zb, zr⟩, ⟨p0, p1, p2, p3⟩, ⟨e0, e1, e2, e3, e4, e5⟩, f0, f1, f2, f3, f4, f5⟩ := DrH.facts D10 hp; clear hq10 hr10
       by_cases hx : (0 : Int) < (r10 : Int)
       ·
        go_wp2; refine bodyPost_ret (v := .agg #[.int .i64 4, .int .i64 (r1 : Int), .string s3, .int .i64 0, .slice none 0 0, .string ⟨#[]⟩]) (by simp [results, Tryz.results54, go_sem, e0, e1, e2, e3, e4, e5]) rfl ?_; have dn := D10.out.done HC.out (.int .i64 4) (.int .i64 (r1 : Int)) (.string s3) (.int .i64 0) (.slice none 0 0) (.string ⟨#[]⟩)
        have hX : eventF n V t B = (⟨4, (r1 : Int), s3, 0, [], ⟨#[]⟩⟩, u10) := by
         have qHX1 := HX1.out; simp only [eventF, evW, evL, evG, evB, evD, evE, ← hgA.out, ← hFA.out, ← hTA.out, ← hg1.out, ← hF1.out, ← hT1.out, ← hg2.out, ← hF2.out, ← hT2.out, ← hg3.out, ← hF3.out, ← hT3.out, ← hg10.out, ← hF10.out, ← hT10.out]
         repeat (first | rw [if_pos (by omega)] | rw [if_neg (by omega)] | rw [if_pos True.intro])
        exact ⟨⟨_, ⟨4, (r1 : Int), s3, 0, [], ⟨#[]⟩⟩, rfl, evO_nil _ _ _ _ _ _ _, ⟨(by omega : s3.size ≤ 20), Nat.zero_le _, Nat.zero_le _⟩, (congrArg Prod.fst hX).symm⟩, (dn.1.mono (by omega)).to (congrArg Prod.snd hX).symm, dn.2⟩
       ·
        go_wp2; refine bodyPost_ret (v := .agg #[.int .i64 5, .int .i64 (r1 : Int), .string ⟨#[]⟩, .int .i64 0, .slice none 0 0, .string ⟨#[]⟩]) (by simp [results, Tryz.results54, go_sem, e0, e1, e2, e3, e4, e5]) rfl ?_; have dn := D10.out.done HC.out (.int .i64 5) (.int .i64 (r1 : Int)) (.string ⟨#[]⟩) (.int .i64 0) (.slice none 0 0) (.string ⟨#[]⟩)
        have hX : eventF n V t B = (⟨5, (r1 : Int), ⟨#[]⟩, 0, [], ⟨#[]⟩⟩, u10) := by
         have qHX1 := HX1.out; simp only [eventF, evW, evL, evG, evB, evD, evE, ← hgA.out, ← hFA.out, ← hTA.out, ← hg1.out, ← hF1.out, ← hT1.out, ← hg2.out, ← hF2.out, ← hT2.out, ← hg3.out, ← hF3.out, ← hT3.out, ← hg10.out, ← hF10.out, ← hT10.out]
         repeat (first | rw [if_pos (by omega)] | rw [if_neg (by omega)] | rw [if_pos True.intro])
        exact ⟨⟨_, ⟨5, (r1 : Int), ⟨#[]⟩, 0, [], ⟨#[]⟩⟩, rfl, evO_nil _ _ _ _ _ _ _, ⟨Nat.zero_le _, Nat.zero_le _, Nat.zero_le _⟩, (congrArg Prod.fst hX).symm⟩, (dn.1.mono (by omega)).to (congrArg Prod.snd hX).symm, dn.2⟩
    ·
     have tx : ((r2 : Int) == 0) = false := by simpa using hx
     have HX4 : Hid (¬ ((r2 : Int) = 0)) := hx; clear hx
     by_cases st1 : (bX B r1).state = 1
     ·
      have ta : ((bX B r1).state == 1) = true := by simpa using st1
      have tb : ((bX B r1).state == 2) = false := by rw [st1]; rfl
      go_wp2_with fail
      obtain ⟨t11, ht11, hc11, hg11⟩ := D2.out.cur; refine (pick_any p ad n c V t11 6 _ (by omega) hn (by omega) hc11).mono ?_; clear hc11; rintro e w111 ⟨⟨r11, rfl, hq11, hr11, hF11⟩, ⟨u11, hu11, hv11, hT11⟩, hf11⟩; have D11 : DrH w w111 p lo ad n c V t 8 B K ao co al cl ac cc u11 := D2.out.step hlo ⟨u11, by omega, hv11, rfl⟩ hf11; have xo2 := (hf11.block _ zo (by omega)).trans xo; have zo2 : w101.heap.size < w111.heap.size := Nat.lt_of_lt_of_le zo hf11.size; clear xo zo o0 o1 o2 o3; have xo := xo2; have zo := zo2; clear xo2 zo2; obtain ⟨o0, o1, o2, o3⟩ := box_cells xo; clear hv11 hf11 ht11 hu11 D2; clear zb zr p0 p1 p2 p3 e0 e1 e2 e3 e4 e5 f0 f1 f2 f3 f4 f5; obtain ⟨⟨zb, zr⟩, ⟨p0, p1, p2, p3⟩, ⟨e0, e1, e2, e3, e4, e5⟩, f0, f1, f2, f3, f4, f5⟩ := DrH.facts D11 hp; clear hq11 hr11
      by_cases hx : (0 : Int) < (r11 : Int)
      ·
       go_wp2; refine bodyPost_ret (v := .agg #[.int .i64 2, .int .i64 (r1 : Int), .string ⟨#[]⟩, .int .i64 0, .slice none 0 0, .string ⟨#[]⟩]) (by simp [results, Tryz.results54, go_sem, e0, e1, e2, e3, e4, e5]) rfl ?_; have dn := D11.out.done HC.out (.int .i64 2) (.int .i64 (r1 : Int)) (.string ⟨#[]⟩) (.int .i64 0) (.slice none 0 0) (.string ⟨#[]⟩)
       have hX : eventF n V t B = (⟨2, (r1 : Int), ⟨#[]⟩, 0, [], ⟨#[]⟩⟩, u11) := by
        have qHX4 := HX4.out; simp only [eventF, evW, evL, evG, evB, evD, evE, ← hgA.out, ← hFA.out, ← hTA.out, ← hg1.out, ← hF1.out, ← hT1.out, ← hg2.out, ← hF2.out, ← hT2.out, ← hg11.out, ← hF11.out, ← hT11.out]
        repeat (first | rw [if_pos (by omega)] | rw [if_neg (by omega)] | rw [if_pos True.intro])
       exact ⟨⟨_, ⟨2, (r1 : Int), ⟨#[]⟩, 0, [], ⟨#[]⟩⟩, rfl, evO_nil _ _ _ _ _ _ _, ⟨Nat.zero_le _, Nat.zero_le _, Nat.zero_le _⟩, (congrArg Prod.fst hX).symm⟩, (dn.1.mono (by omega)).to (congrArg Prod.snd hX).symm, dn.2⟩
      ·
       go_wp2_with fail
       obtain ⟨t12, ht12, hc12, hg12⟩ := D11.out.cur; refine (pick_any p ad n c V t12 5 _ (by omega) hn (by omega) hc12).mono ?_; clear hc12; rintro e w112 ⟨⟨r12, rfl, hq12, hr12, hF12⟩, ⟨u12, hu12, hv12, hT12⟩, hf12⟩; have D12 : DrH w w112 p lo ad n c V t 10 B K ao co al cl ac cc u12 := D11.out.step hlo ⟨u12, by omega, hv12, rfl⟩ hf12; have xo2 := (hf12.block _ zo (by omega)).trans xo; have zo2 : w101.heap.size < w112.heap.size := Nat.lt_of_lt_of_le zo hf12.size; clear xo zo o0 o1 o2 o3; have xo := xo2; have zo := zo2; clear xo2 zo2; obtain ⟨o0, o1, o2, o3⟩ := box_cells xo; clear hv12 hf12 ht12 hu12 D11; clear zb zr p0 p1 p2 p3 e0 e1 e2 e3 e4 e5 f0 f1 f2 f3 f4 f5; obtain ⟨⟨zb, zr⟩, ⟨p0, p1, p2, p3⟩, ⟨e0, e1, e2, e3, e4, e5⟩, f0, f1, f2, f3, f4, f5⟩ := DrH.facts D12 hp; clear hq12 hr12
       by_cases hx : (0 : Int) < (r12 : Int)
       ·
        go_wp2; refine bodyPost_ret (v := .agg #[.int .i64 4, .int .i64 (r1 : Int), .string (bX B r1).holder, .int .i64 0, .slice none 0 0, .string ⟨#[]⟩]) (by simp [results, Tryz.results54, go_sem, e0, e1, e2, e3, e4, e5]) rfl ?_; have dn := D12.out.done HC.out (.int .i64 4) (.int .i64 (r1 : Int)) (.string (bX B r1).holder) (.int .i64 0) (.slice none 0 0) (.string ⟨#[]⟩)
        have hX : eventF n V t B = (⟨4, (r1 : Int), (bX B r1).holder, 0, [], ⟨#[]⟩⟩, u12) := by
         have qHX4 := HX4.out; simp only [eventF, evW, evL, evG, evB, evD, evE, ← hgA.out, ← hFA.out, ← hTA.out, ← hg1.out, ← hF1.out, ← hT1.out, ← hg2.out, ← hF2.out, ← hT2.out, ← hg11.out, ← hF11.out, ← hT11.out, ← hg12.out, ← hF12.out, ← hT12.out]
         repeat (first | rw [if_pos (by omega)] | rw [if_neg (by omega)] | rw [if_pos True.intro])
        exact ⟨⟨_, ⟨4, (r1 : Int), (bX B r1).holder, 0, [], ⟨#[]⟩⟩, rfl, evO_nil _ _ _ _ _ _ _, ⟨hhs, Nat.zero_le _, Nat.zero_le _⟩, (congrArg Prod.fst hX).symm⟩, (dn.1.mono (by omega)).to (congrArg Prod.snd hX).symm, dn.2⟩
       ·
        go_wp2; refine bodyPost_ret (v := .agg #[.int .i64 5, .int .i64 (r1 : Int), .string ⟨#[]⟩, .int .i64 0, .slice none 0 0, .string ⟨#[]⟩]) (by simp [results, Tryz.results54, go_sem, e0, e1, e2, e3, e4, e5]) rfl ?_; have dn := D12.out.done HC.out (.int .i64 5) (.int .i64 (r1 : Int)) (.string ⟨#[]⟩) (.int .i64 0) (.slice none 0 0) (.string ⟨#[]⟩)
        have hX : eventF n V t B = (⟨5, (r1 : Int), ⟨#[]⟩, 0, [], ⟨#[]⟩⟩, u12) := by
         have qHX4 := HX4.out; simp only [eventF, evW, evL, evG, evB, evD, evE, ← hgA.out, ← hFA.out, ← hTA.out, ← hg1.out, ← hF1.out, ← hT1.out, ← hg2.out, ← hF2.out, ← hT2.out, ← hg11.out, ← hF11.out, ← hT11.out, ← hg12.out, ← hF12.out, ← hT12.out]
         repeat (first | rw [if_pos (by omega)] | rw [if_neg (by omega)] | rw [if_pos True.intro])
        exact ⟨⟨_, ⟨5, (r1 : Int), ⟨#[]⟩, 0, [], ⟨#[]⟩⟩, rfl, evO_nil _ _ _ _ _ _ _, ⟨Nat.zero_le _, Nat.zero_le _, Nat.zero_le _⟩, (congrArg Prod.fst hX).symm⟩, (dn.1.mono (by omega)).to (congrArg Prod.snd hX).symm, dn.2⟩
     ·
      have ta : ((bX B r1).state == 1) = false := by simpa using st1
      by_cases st2 : (bX B r1).state = 2
      ·
       have tb : ((bX B r1).state == 2) = true := by simpa using st2
       go_wp2_with fail
       obtain ⟨t13, ht13, hc13, hg13⟩ := D2.out.cur; refine (pick_any p ad n c V t13 6 _ (by omega) hn (by omega) hc13).mono ?_; clear hc13; rintro e w113 ⟨⟨r13, rfl, hq13, hr13, hF13⟩, ⟨u13, hu13, hv13, hT13⟩, hf13⟩; have D13 : DrH w w113 p lo ad n c V t 8 B K ao co al cl ac cc u13 := D2.out.step hlo ⟨u13, by omega, hv13, rfl⟩ hf13; have xo2 := (hf13.block _ zo (by omega)).trans xo; have zo2 : w101.heap.size < w113.heap.size := Nat.lt_of_lt_of_le zo hf13.size; clear xo zo o0 o1 o2 o3; have xo := xo2; have zo := zo2; clear xo2 zo2; obtain ⟨o0, o1, o2, o3⟩ := box_cells xo; clear hv13 hf13 ht13 hu13 D2; clear zb zr p0 p1 p2 p3 e0 e1 e2 e3 e4 e5 f0 f1 f2 f3 f4 f5; obtain ⟨⟨zb, zr⟩, ⟨p0, p1, p2, p3⟩, ⟨e0, e1, e2, e3, e4, e5⟩, f0, f1, f2, f3, f4, f5⟩ := DrH.facts D13 hp; clear hq13 hr13
       by_cases hx : (0 : Int) < (r13 : Int)
       ·
        go_wp2_with fail
        refine (specOrderText_any _ B (r1 : Int) _ (Nat.le_trans HB.out.1.o (by decide)) (fun q hq => ⟨Nat.le_trans (HB.out.1.s q hq) (by decide), Nat.le_trans (HB.out.2 q hq) (by decide)⟩) ⟨hb.1, by have := hb.2; omega⟩ D13.out.own.bookAt).mono ?_; rintro e w114 ⟨⟨y14, rfl, hy14⟩, bb14⟩; have ly14 : y14.size ≤ 399 := by rw [← bl_size]; exact textIs_len hy14
        have D14 : DrH w w114 p lo ad n c V t 8 B K ao co al cl ac cc u13 := D13.out.below bb14; have xo2 := (bb14.block _ zo).trans xo; have zo2 : w101.heap.size < w114.heap.size := Nat.lt_of_lt_of_le zo bb14.size; clear xo zo o0 o1 o2 o3; have xo := xo2; have zo := zo2; clear xo2 zo2; obtain ⟨o0, o1, o2, o3⟩ := box_cells xo; have hY14 : Hid (y14 = textB B (r1 : Int)) := textB_of hy14; clear bb14 hy14 D13; clear zb zr p0 p1 p2 p3 e0 e1 e2 e3 e4 e5 f0 f1 f2 f3 f4 f5; obtain ⟨⟨zb, zr⟩, ⟨p0, p1, p2, p3⟩, ⟨e0, e1, e2, e3, e4, e5⟩, f0, f1, f2, f3, f4, f5⟩ := DrH.facts D14 hp
        go_wp2_with fail
        obtain ⟨t15, ht15, hc15, hg15⟩ := D14.out.cur; refine (pick_any p ad n c V t15 8 _ (by omega) hn (by omega) hc15).mono ?_; clear hc15; rintro e w115 ⟨⟨r15, rfl, hq15, hr15, hF15⟩, ⟨u15, hu15, hv15, hT15⟩, hf15⟩; have D15 : DrH w w115 p lo ad n c V t 10 B K ao co al cl ac cc u15 := D14.out.step hlo ⟨u15, by omega, hv15, rfl⟩ hf15; have xo2 := (hf15.block _ zo (by omega)).trans xo; have zo2 : w101.heap.size < w115.heap.size := Nat.lt_of_lt_of_le zo hf15.size; clear xo zo o0 o1 o2 o3; have xo := xo2; have zo := zo2; clear xo2 zo2; obtain ⟨o0, o1, o2, o3⟩ := box_cells xo; clear hv15 hf15 ht15 hu15 D14; clear zb zr p0 p1 p2 p3 e0 e1 e2 e3 e4 e5 f0 f1 f2 f3 f4 f5; obtain ⟨⟨zb, zr⟩, ⟨p0, p1, p2, p3⟩, ⟨e0, e1, e2, e3, e4, e5⟩, f0, f1, f2, f3, f4, f5⟩ := DrH.facts D15 hp; clear hq15 hr15
        by_cases hx : (r15 : Int) = 0
        ·
         have tx : ((r15 : Int) == 0) = true := by simpa using hx
         have hadd := fun W => run_string_add_sum (P := Tryz.prog) W y14 ⟨#[120]⟩ (by have : (ByteArray.mk #[120]).size = 1 := rfl; omega); have lz : (y14 ++ ⟨#[120]⟩ : ByteArray).size ≤ 400 := by rw [ByteArray.size_append]; have : (ByteArray.mk #[120]).size = 1 := rfl; omega
         have HX5 : Hid ((r15 : Int) = 0) := hx; clear hx; go_wp2; refine bodyPost_ret (v := .agg #[.int .i64 3, .int .i64 (r1 : Int), .string (bX B r1).holder, .int .i64 0, .slice none 0 0, .string (y14 ++ ⟨#[120]⟩)]) (by simp [results, Tryz.results54, go_sem, e0, e1, e2, e3, e4, e5]) rfl ?_; have dn := D15.out.done HC.out (.int .i64 3) (.int .i64 (r1 : Int)) (.string (bX B r1).holder) (.int .i64 0) (.slice none 0 0) (.string (y14 ++ ⟨#[120]⟩))
         have hX : eventF n V t B = (⟨3, (r1 : Int), (bX B r1).holder, 0, [], (y14 ++ (⟨#[120]⟩ : ByteArray))⟩, u15) := by
          have qHX4 := HX4.out; have qHX5 := HX5.out; simp only [eventF, evW, evL, evG, evB, evD, evE, ← hgA.out, ← hFA.out, ← hTA.out, ← hg1.out, ← hF1.out, ← hT1.out, ← hg2.out, ← hF2.out, ← hT2.out, ← hg13.out, ← hF13.out, ← hT13.out, ← hY14.out, ← hg15.out, ← hF15.out, ← hT15.out]
          repeat (first | rw [if_pos (by omega)] | rw [if_neg (by omega)] | rw [if_pos True.intro])
         exact ⟨⟨_, ⟨3, (r1 : Int), (bX B r1).holder, 0, [], (y14 ++ (⟨#[120]⟩ : ByteArray))⟩, rfl, evO_nil _ _ _ _ _ _ _, ⟨hhs, lz, Nat.zero_le _⟩, (congrArg Prod.fst hX).symm⟩, (dn.1.mono (by omega)).to (congrArg Prod.snd hX).symm, dn.2⟩
        ·
         have tx : ((r15 : Int) == 0) = false := by simpa using hx
         have HX6 : Hid (¬ ((r15 : Int) = 0)) := hx; clear hx; go_wp2; refine bodyPost_ret (v := .agg #[.int .i64 3, .int .i64 (r1 : Int), .string (bX B r1).holder, .int .i64 0, .slice none 0 0, .string y14]) (by simp [results, Tryz.results54, go_sem, e0, e1, e2, e3, e4, e5]) rfl ?_; have dn := D15.out.done HC.out (.int .i64 3) (.int .i64 (r1 : Int)) (.string (bX B r1).holder) (.int .i64 0) (.slice none 0 0) (.string y14)
         have hX : eventF n V t B = (⟨3, (r1 : Int), (bX B r1).holder, 0, [], y14⟩, u15) := by
          have qHX4 := HX4.out; have qHX6 := HX6.out; simp only [eventF, evW, evL, evG, evB, evD, evE, ← hgA.out, ← hFA.out, ← hTA.out, ← hg1.out, ← hF1.out, ← hT1.out, ← hg2.out, ← hF2.out, ← hT2.out, ← hg13.out, ← hF13.out, ← hT13.out, ← hY14.out, ← hg15.out, ← hF15.out, ← hT15.out]
          repeat (first | rw [if_pos (by omega)] | rw [if_neg (by omega)] | rw [if_pos True.intro])
         exact ⟨⟨_, ⟨3, (r1 : Int), (bX B r1).holder, 0, [], y14⟩, rfl, evO_nil _ _ _ _ _ _ _, ⟨hhs, (by omega : y14.size ≤ 400), Nat.zero_le _⟩, (congrArg Prod.fst hX).symm⟩, (dn.1.mono (by omega)).to (congrArg Prod.snd hX).symm, dn.2⟩
       ·
        go_wp2_with fail
        obtain ⟨t16, ht16, hc16, hg16⟩ := D13.out.cur; refine (pick_any p ad n c V t16 5 _ (by omega) hn (by omega) hc16).mono ?_; clear hc16; rintro e w116 ⟨⟨r16, rfl, hq16, hr16, hF16⟩, ⟨u16, hu16, hv16, hT16⟩, hf16⟩; have D16 : DrH w w116 p lo ad n c V t 10 B K ao co al cl ac cc u16 := D13.out.step hlo ⟨u16, by omega, hv16, rfl⟩ hf16; have xo2 := (hf16.block _ zo (by omega)).trans xo; have zo2 : w101.heap.size < w116.heap.size := Nat.lt_of_lt_of_le zo hf16.size; clear xo zo o0 o1 o2 o3; have xo := xo2; have zo := zo2; clear xo2 zo2; obtain ⟨o0, o1, o2, o3⟩ := box_cells xo; clear hv16 hf16 ht16 hu16 D13; clear zb zr p0 p1 p2 p3 e0 e1 e2 e3 e4 e5 f0 f1 f2 f3 f4 f5; obtain ⟨⟨zb, zr⟩, ⟨p0, p1, p2, p3⟩, ⟨e0, e1, e2, e3, e4, e5⟩, f0, f1, f2, f3, f4, f5⟩ := DrH.facts D16 hp; clear hq16 hr16
        by_cases hx : (0 : Int) < (r16 : Int)
        ·
         go_wp2; refine bodyPost_ret (v := .agg #[.int .i64 4, .int .i64 (r1 : Int), .string (bX B r1).holder, .int .i64 0, .slice none 0 0, .string ⟨#[]⟩]) (by simp [results, Tryz.results54, go_sem, e0, e1, e2, e3, e4, e5]) rfl ?_; have dn := D16.out.done HC.out (.int .i64 4) (.int .i64 (r1 : Int)) (.string (bX B r1).holder) (.int .i64 0) (.slice none 0 0) (.string ⟨#[]⟩)
         have hX : eventF n V t B = (⟨4, (r1 : Int), (bX B r1).holder, 0, [], ⟨#[]⟩⟩, u16) := by
          have qHX4 := HX4.out; simp only [eventF, evW, evL, evG, evB, evD, evE, ← hgA.out, ← hFA.out, ← hTA.out, ← hg1.out, ← hF1.out, ← hT1.out, ← hg2.out, ← hF2.out, ← hT2.out, ← hg13.out, ← hF13.out, ← hT13.out, ← hg16.out, ← hF16.out, ← hT16.out]
          repeat (first | rw [if_pos (by omega)] | rw [if_neg (by omega)] | rw [if_pos True.intro])
         exact ⟨⟨_, ⟨4, (r1 : Int), (bX B r1).holder, 0, [], ⟨#[]⟩⟩, rfl, evO_nil _ _ _ _ _ _ _, ⟨hhs, Nat.zero_le _, Nat.zero_le _⟩, (congrArg Prod.fst hX).symm⟩, (dn.1.mono (by omega)).to (congrArg Prod.snd hX).symm, dn.2⟩
        ·
         go_wp2; refine bodyPost_ret (v := .agg #[.int .i64 5, .int .i64 (r1 : Int), .string ⟨#[]⟩, .int .i64 0, .slice none 0 0, .string ⟨#[]⟩]) (by simp [results, Tryz.results54, go_sem, e0, e1, e2, e3, e4, e5]) rfl ?_; have dn := D16.out.done HC.out (.int .i64 5) (.int .i64 (r1 : Int)) (.string ⟨#[]⟩) (.int .i64 0) (.slice none 0 0) (.string ⟨#[]⟩)
         have hX : eventF n V t B = (⟨5, (r1 : Int), ⟨#[]⟩, 0, [], ⟨#[]⟩⟩, u16) := by
          have qHX4 := HX4.out; simp only [eventF, evW, evL, evG, evB, evD, evE, ← hgA.out, ← hFA.out, ← hTA.out, ← hg1.out, ← hF1.out, ← hT1.out, ← hg2.out, ← hF2.out, ← hT2.out, ← hg13.out, ← hF13.out, ← hT13.out, ← hg16.out, ← hF16.out, ← hT16.out]
          repeat (first | rw [if_pos (by omega)] | rw [if_neg (by omega)] | rw [if_pos True.intro])
         exact ⟨⟨_, ⟨5, (r1 : Int), ⟨#[]⟩, 0, [], ⟨#[]⟩⟩, rfl, evO_nil _ _ _ _ _ _ _, ⟨Nat.zero_le _, Nat.zero_le _, Nat.zero_le _⟩, (congrArg Prod.fst hX).symm⟩, (dn.1.mono (by omega)).to (congrArg Prod.snd hX).symm, dn.2⟩
      ·
       have tb : ((bX B r1).state == 2) = false := by simpa using st2
       go_wp2_with fail
       obtain ⟨t17, ht17, hc17, hg17⟩ := D2.out.cur; refine (pick_any p ad n c V t17 5 _ (by omega) hn (by omega) hc17).mono ?_; clear hc17; rintro e w117 ⟨⟨r17, rfl, hq17, hr17, hF17⟩, ⟨u17, hu17, hv17, hT17⟩, hf17⟩; have D17 : DrH w w117 p lo ad n c V t 8 B K ao co al cl ac cc u17 := D2.out.step hlo ⟨u17, by omega, hv17, rfl⟩ hf17; have xo2 := (hf17.block _ zo (by omega)).trans xo; have zo2 : w101.heap.size < w117.heap.size := Nat.lt_of_lt_of_le zo hf17.size; clear xo zo o0 o1 o2 o3; have xo := xo2; have zo := zo2; clear xo2 zo2; obtain ⟨o0, o1, o2, o3⟩ := box_cells xo; clear hv17 hf17 ht17 hu17 D2; clear zb zr p0 p1 p2 p3 e0 e1 e2 e3 e4 e5 f0 f1 f2 f3 f4 f5; obtain ⟨⟨zb, zr⟩, ⟨p0, p1, p2, p3⟩, ⟨e0, e1, e2, e3, e4, e5⟩, f0, f1, f2, f3, f4, f5⟩ := DrH.facts D17 hp; clear hq17 hr17
       by_cases hx : (0 : Int) < (r17 : Int)
       ·
        go_wp2; refine bodyPost_ret (v := .agg #[.int .i64 4, .int .i64 (r1 : Int), .string (bX B r1).holder, .int .i64 0, .slice none 0 0, .string ⟨#[]⟩]) (by simp [results, Tryz.results54, go_sem, e0, e1, e2, e3, e4, e5]) rfl ?_; have dn := D17.out.done HC.out (.int .i64 4) (.int .i64 (r1 : Int)) (.string (bX B r1).holder) (.int .i64 0) (.slice none 0 0) (.string ⟨#[]⟩)
        have hX : eventF n V t B = (⟨4, (r1 : Int), (bX B r1).holder, 0, [], ⟨#[]⟩⟩, u17) := by
         have qHX4 := HX4.out; simp only [eventF, evW, evL, evG, evB, evD, evE, ← hgA.out, ← hFA.out, ← hTA.out, ← hg1.out, ← hF1.out, ← hT1.out, ← hg2.out, ← hF2.out, ← hT2.out, ← hg17.out, ← hF17.out, ← hT17.out]
         repeat (first | rw [if_pos (by omega)] | rw [if_neg (by omega)] | rw [if_pos True.intro])
        exact ⟨⟨_, ⟨4, (r1 : Int), (bX B r1).holder, 0, [], ⟨#[]⟩⟩, rfl, evO_nil _ _ _ _ _ _ _, ⟨hhs, Nat.zero_le _, Nat.zero_le _⟩, (congrArg Prod.fst hX).symm⟩, (dn.1.mono (by omega)).to (congrArg Prod.snd hX).symm, dn.2⟩
       ·
        go_wp2; refine bodyPost_ret (v := .agg #[.int .i64 5, .int .i64 (r1 : Int), .string ⟨#[]⟩, .int .i64 0, .slice none 0 0, .string ⟨#[]⟩]) (by simp [results, Tryz.results54, go_sem, e0, e1, e2, e3, e4, e5]) rfl ?_; have dn := D17.out.done HC.out (.int .i64 5) (.int .i64 (r1 : Int)) (.string ⟨#[]⟩) (.int .i64 0) (.slice none 0 0) (.string ⟨#[]⟩)
        have hX : eventF n V t B = (⟨5, (r1 : Int), ⟨#[]⟩, 0, [], ⟨#[]⟩⟩, u17) := by
         have qHX4 := HX4.out; simp only [eventF, evW, evL, evG, evB, evD, evE, ← hgA.out, ← hFA.out, ← hTA.out, ← hg1.out, ← hF1.out, ← hT1.out, ← hg2.out, ← hF2.out, ← hT2.out, ← hg17.out, ← hF17.out, ← hT17.out]
         repeat (first | rw [if_pos (by omega)] | rw [if_neg (by omega)] | rw [if_pos True.intro])
        exact ⟨⟨_, ⟨5, (r1 : Int), ⟨#[]⟩, 0, [], ⟨#[]⟩⟩, rfl, evO_nil _ _ _ _ _ _ _, ⟨Nat.zero_le _, Nat.zero_le _, Nat.zero_le _⟩, (congrArg Prod.fst hX).symm⟩, (dn.1.mono (by omega)).to (congrArg Prod.snd hX).symm, dn.2⟩
end Go.Proofs.YtdlaekjofgbjcaaGreatDoor
