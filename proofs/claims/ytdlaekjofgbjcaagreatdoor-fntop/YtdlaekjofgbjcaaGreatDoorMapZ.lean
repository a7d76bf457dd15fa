import Derived.Test.YtdlaekjofgbjcaaGreatDoorBaseZ
import Derived.Maps.Own
import Derived.Maps.OwnSet
import Derived.Maps.OwnOps
import Derived.Maps.Views
import Derived.Test.YtdlaekjofgbjcaaGreatDoorSBook
/-
 A map[int]int that the call made, as a plain function; laws for its look-up and its store. Mine, by template (wip/gen.py).
-/
namespace Go.Proofs.YtdlaekjofgbjcaaGreatDoor
open Go.RowKit Go.Maps
theorem lawInt : Keyed Tryz.prog 3 := int_keyed Tryz.underlying3
theorem zeroInt (w : World) : (zeroValue 3).run Tryz.prog w = .ok (.int .i64 0) w := by kernel_rfl
def MapIs (w : World) (b n : Nat) (F : Int → Option Int) : Prop :=
 ∃ D : DataW Unit, w.ownsMap Tryz.prog 3 (plainElem Tryz.prog 3) b n D ∧ IsMap D ∧ ∀ s, Maps.has D (.int .i64 s) = (F s).isSome ∧ D.atKey (.int .i64 s) (.lit (.int .i64 0)) = .lit (.int .i64 ((F s).getD 0))
theorem MapIs.of_block {w w' : World} {b n : Nat} {F : Int → Option Int} (h : MapIs w b n F) (e : w'.heap[b]? = w.heap[b]?) : MapIs w' b n F := by
 obtain ⟨D, ⟨es, clock, h1, h2⟩, h3⟩ := h; exact ⟨D, ⟨es, clock, e.trans h1, h2⟩, h3⟩
theorem MapIs.lt {w : World} {b n : Nat} {F : Int → Option Int} (h : MapIs w b n F) : b < w.heap.size := by
 obtain ⟨D, ⟨es, clock, h1, h2⟩, h3⟩ := h; obtain ⟨hlt, _⟩ := Array.getElem?_eq_some_iff.1 h1; exact hlt
theorem MapIs.below {w w' : World} {b n : Nat} {F : Int → Option Int} (h : MapIs w b n F) (hb : Below w.heap.size w w') : MapIs w' b n F := h.of_block (hb.block _ h.lt)
theorem MapIs.made (w : World) : MapIs (w.alloc (.map #[] 0)) w.heap.size 0 (fun _ => none) :=
 ⟨.map [], World.ownsMap_made _ _ _ _, isMap_empty, fun _ => ⟨rfl, rfl⟩⟩
theorem wpList_look {w : World} {ops : Array Oper} {rest : List Oper} {o : Oper} {a : Act} {Q : Exit → Act → World → Prop} (hg : o.guard = none) (m x : Operand) (hop : o.op = Op.lookup 69 m x true)
  (b n : Nat) (F : Int → Option Int) (hm : a.eval m = .map (some b)) (hmap : MapIs w b n F) (s : Int) (hx : a.eval x = .int .i64 s) (hwf : (Lit.int .i64 s).wf = true)
  (hK : wpList Tryz.prog ops Q rest (a.put o.dst (.tuple #[.int .i64 ((F s).getD 0), .bool (F s).isSome])) w) : wpList Tryz.prog ops Q (o :: rest) a w := by
 obtain ⟨D, hown, _, hF⟩ := hmap; refine wpList_lookup_own_ok_int w hg m x 69 hop 3 3 .i64 lawInt Tryz.underlying69 Tryz.underlying3 (zeroInt _) b n D hm hown _ _ hx (keyOf_int_mk Tryz.underlying3 hwf) (fun c hc _ => ?_); have e1 := (hF s).2; rw [hc] at e1; have e2 : c = (F s).getD 0 := by injection e1 with e1; injection e1
 rw [e2, (hF s).1]; exact hK
theorem wpList_store {w : World} {ops : Array Oper} {rest : List Oper} {o : Oper} {a : Act} {Q : Exit → Act → World → Prop} (hg : o.guard = none) (m x v : Operand) (hop : o.op = Op.mapUpdate 69 m x v)
  (b n : Nat) (F : Int → Option Int) (hm : a.eval m = .map (some b)) (hmap : MapIs w b n F) (hn : n < maxLen) (s u : Int) (hx : a.eval x = .int .i64 s) (hv : a.eval v = .int .i64 u) (hwf : (Lit.int .i64 s).wf = true) (hwu : (Lit.int .i64 u).wf = true)
  (hK : ∀ w', MapIs w' b (n + 1) (fun t => if t = s then some u else F t) → w.grownBy w' (some b) → wpList Tryz.prog ops Q rest (a.put o.dst undef) w') : wpList Tryz.prog ops Q (o :: rest) a w := by
 obtain ⟨D, hown, hD, hF⟩ := hmap; refine wpList_mapUpdate_own w hg m x v 69 hop 3 3 lawInt Tryz.underlying69 _ b n D hm hown hn _ _ _ hx hv (keyOf_int_mk Tryz.underlying3 hwf) _ [] (plainElem_int Tryz.underlying3 hwu) (fun w' h1 h2 => hK w' ⟨_, h1, hD.put _ _, fun t => ?_⟩ h2)
 by_cases e : t = s
 ·
  subst e; simp only [if_true]; exact ⟨has_put_same (k := .int .i64 t) hD trivial _, atKey_put_same (k := .int .i64 t) hD trivial _ _⟩
 ·
  have ne : Lit.int .i64 t ≠ Lit.int .i64 s := fun h => e (by injection h); simp only [if_neg e]; exact ⟨(has_put_other ne _).trans (hF t).1, (atKey_put_other ne _ _).trans (hF t).2⟩
end Go.Proofs.YtdlaekjofgbjcaaGreatDoor
/-
 The contract of impl.sectionOwners. Mine, by template (wip/gen.py).
-/
namespace Go.Proofs.YtdlaekjofgbjcaaGreatDoor
open Go.RowKit
def HasS (x : Ord) (l : Nat) (s : Int) : Prop := ∃ q, q < l ∧ sV x q = s
def OwnP (X : Nat → Ord) (k l i : Nat) (s : Int) : Prop := OpenP (X i).state ∧ ((i < k ∧ HasS (X i) (X i).secs.length s) ∨ (i = k ∧ HasS (X k) l s))
def Inv (X : Nat → Ord) (k l : Nat) (F : Int → Option Int) : Prop := (∀ s v, F s = some v → ∃ i : Nat, v = (i : Int) ∧ OwnP X k l i s) ∧ ∀ s (i : Nat), OwnP X k l i s → F s = some (i : Int)
theorem Inv.start (X : Nat → Ord) : Inv X 0 0 (fun _ => none) :=
 ⟨fun _ _ h => (by cases h), fun _ _ h => by
  rcases h.2 with ⟨h1, _⟩ | ⟨_, q, h1, _⟩
  · omega
  · omega⟩
theorem Inv.skip {X : Nat → Ord} {k : Nat} {F : Int → Option Int} (h : Inv X k 0 F) (ho : ¬ OpenP (X k).state) : Inv X (k + 1) 0 F := by
 refine ⟨fun s v e => ?_, fun s i p => ?_⟩
 ·
  obtain ⟨i, rfl, p1, p2⟩ := h.1 s v e; refine ⟨i, rfl, p1, ?_⟩; rcases p2 with ⟨a, b⟩ | ⟨_, q, a, _⟩
  · exact Or.inl ⟨by omega, b⟩
  · omega
 ·
  refine h.2 s i ⟨p.1, ?_⟩; rcases p.2 with ⟨a, b⟩ | ⟨_, q, a, _⟩
  ·
   by_cases e : i = k
   · subst e; exact absurd p.1 ho
   · exact Or.inl ⟨by omega, b⟩
  · omega
theorem Inv.done {X : Nat → Ord} {k : Nat} {F : Int → Option Int} (h : Inv X k (X k).secs.length F) : Inv X (k + 1) 0 F := by
 refine ⟨fun s v e => ?_, fun s i p => ?_⟩
 ·
  obtain ⟨i, rfl, p1, p2⟩ := h.1 s v e; refine ⟨i, rfl, p1, ?_⟩; rcases p2 with ⟨a, b⟩ | ⟨rfl, b⟩
  · exact Or.inl ⟨by omega, b⟩
  · exact Or.inl ⟨by omega, b⟩
 ·
  refine h.2 s i ⟨p.1, ?_⟩; rcases p.2 with ⟨a, b⟩ | ⟨_, q, a, _⟩
  ·
   by_cases e : i = k
   · subst e; exact Or.inr ⟨rfl, b⟩
   · exact Or.inl ⟨by omega, b⟩
  · omega
theorem Inv.store {X : Nat → Ord} {k l : Nat} {F : Int → Option Int} (h : Inv X k l F) (ho : OpenP (X k).state) (hn : F (sV (X k) l) = none) : Inv X k (l + 1) (fun t => if t = sV (X k) l then some (k : Int) else F t) := by
 refine ⟨fun s v e => ?_, fun s i p => ?_⟩
 ·
  by_cases es : s = sV (X k) l
  ·
   simp only [if_pos es] at e
   injection e with e
   exact ⟨k, e.symm, ho, Or.inr ⟨rfl, l, by omega, es.symm⟩⟩
  ·
   simp only [if_neg es] at e; obtain ⟨i, rfl, p1, p2⟩ := h.1 s v e; refine ⟨i, rfl, p1, ?_⟩; rcases p2 with a | ⟨a, q, b, c⟩
   · exact Or.inl a
   · exact Or.inr ⟨a, q, by omega, c⟩
 ·
  by_cases es : s = sV (X k) l
  ·
   simp only [if_pos es]; rcases p.2 with ⟨a, b⟩ | ⟨a, _⟩
   ·
    have := h.2 s i ⟨p.1, Or.inl ⟨a, b⟩⟩; rw [es, hn] at this; cases this
   · rw [a]
  ·
   simp only [if_neg es]; refine h.2 s i ⟨p.1, ?_⟩; rcases p.2 with a | ⟨a, q, b, c⟩
   · exact Or.inl a
   ·
    refine Or.inr ⟨a, q, ?_, c⟩
    by_cases e : q = l
    · subst e; exact absurd c.symm es
    · omega
theorem asc_inj {n : Nat} {V : Nat → Int} {lim : Int} (h : ListOk n V lim) : ∀ d i, i + d + 1 < n + 1 → i + d < n → 0 < d → V i < V (i + d) := by
 intro d
 induction d with
 | zero => intro i _ _ h0; omega
 | succ d ih =>
  intro i _ h2 _; have s1 := (h.1 (i + (d + 1)) h2).2.2 (by omega); have e : i + (d + 1) - 1 = i + d := by omega
  rw [e] at s1
  by_cases hd : d = 0
  · subst hd; exact s1
  · have := ih i (by omega) (by omega) (by omega); omega
theorem Inv.clash {X : Nat → Ord} {k l : Nat} {F : Int → Option Int} {lim : Int} {v : Int} (h : Inv X k l F) (ho : OpenP (X k).state) (hl : l < (X k).secs.length) (hk : ListOk (X k).secs.length (sV (X k)) lim) (e : F (sV (X k) l) = some v) : ∃ j, j < k ∧ Clash (X k) (X j) := by
 obtain ⟨i, _, p1, p2⟩ := h.1 _ _ e; rcases p2 with ⟨a, q, b, c⟩ | ⟨rfl, q, b, c⟩
 · exact ⟨i, a, ho, p1, l, q, hl, b, c.symm⟩
 ·
  have := asc_inj hk (l - q) q (by omega) (by omega) (by omega); rw [show q + (l - q) = l by omega] at this; omega
theorem Inv.alone {X : Nat → Ord} {n : Nat} {F : Int → Option Int} (h : Inv X n 0 F) {i j : Nat} (hi : i < n) (hj : j < i) : ¬ Clash (X i) (X j) := by
 rintro ⟨o1, o2, a, b, ha, hb, e⟩; have e1 := h.2 (sV (X i) a) i ⟨o1, Or.inl ⟨hi, a, ha, rfl⟩⟩; have e2 := h.2 (sV (X i) a) j ⟨o2, Or.inl ⟨by omega, b, hb, e.symm⟩⟩; rw [e1] at e2
 injection e2 with e2
 omega
def RetOwn (e : Ending) (lo : Nat) (w' : World) (n : Nat) (X : Nat → Ord) : Prop :=
 (∃ g m F, e = .returned (.tuple #[.map (some g), .bool true]) ∧ lo ≤ g ∧ MapIs w' g m F ∧ Inv X n 0 F) ∨
 (e = .returned (.tuple #[.map none, .bool false]) ∧ ∃ i j, i < n ∧ j < i ∧ Clash (X i) (X j))
set_option maxHeartbeats 2000000 in
theorem sectionOwners_any (ad : Option Addr) (c n : Nat) (X : Nat → Ord) (w : World) (hn : n ≤ 1048576) (hl : ∀ i, i < n → ListOk (X i).secs.length (sV (X i)) 60)
  (K : ∃ b o, (0 < n → ad = some ⟨b, o, none⟩) ∧ ∀ i, i < n → ∃ sa sc, OrdAt w b (o + i * 4) (X i) sa sc) :
  Calls Tryz.prog 32 #[.slice ad n c] w fun e w' => RetOwn e w.heap.size w' n X ∧ Below w.heap.size w w' := by
 obtain ⟨b, o, hd, g⟩ := K; have hmm := @run_makeMap Tryz.prog
 go_enter Tryz.func32, Tryz.ntmps32
 go_wp2; clear hmm
 go_loopw [14] (fun i wr => ∃ (k m : Nat) (F : Int → Option Int), k ≤ n ∧ i = .int .i64 k ∧ m ≤ k * 20 ∧ MapIs wr w.heap.size m F ∧ Inv X k 0 F ∧ Below w.heap.size w wr) (fun i _ => n - (intOf i).toNat)
 case atStart => exact ⟨0, 0, _, Nat.zero_le _, rfl, Nat.le_refl _, MapIs.made w, Inv.start X, below1 _ _⟩
 case round =>
  obtain ⟨k, m, F, hk, rfl, hm, hmap, hinv, hb⟩ := hrel; have HI : Hid (MapIs wr w.heap.size m F ∧ Inv X k 0 F) := ⟨hmap, hinv⟩; have zb : w.heap.size < wr.heap.size := hmap.lt; clear hmap hinv
  by_cases hlt : k < n
  ·
   obtain rfl := hd (by omega); obtain ⟨sa, sc, q⟩ := g k hlt; obtain ⟨x0, x1, x2, x3, x4⟩ := q.below hb; have hlk := hl k hlt; have hlen : (X k).secs.length ≤ 20 := hlk.2.2; have HL : Hid (ListOk (X k).secs.length (sV (X k)) 60) := hlk; have x5 : Cells w sa (X k).secs.length (fun i => .int .i64 (sV (X k) i)) := q.secs; clear q hlk
   go_wp2_with fail
   refine (isOpen_any _ _ _ (X k).state _).mono ?_; rintro e w1 ⟨hr, hb1⟩; have st : Below wr.heap.size wr w1 := (below1 _ _).trans (hb1.mono (by simp)); have hbw1 : Below w.heap.size w w1 := below_trans hb hb.size st; have bx : w1.heap[wr.heap.size]? = some (.cells #[.string (X k).holder, .int .i64 (X k).kind, .slice sa (X k).secs.length sc, .int .i64 (X k).state] 41 (0, 0)) := (hb1.block _ (by simp)).trans (Deep.blk_alloc_new _ _); have H1 : Hid (MapIs w1 w.heap.size m F ∧ Inv X k 0 F) := ⟨HI.out.1.below st, HI.out.2⟩; have z1 : wr.heap.size < w1.heap.size := by have := hb1.size; simp at this; omega
   clear hb1 x0 x1 x2 x3 x4 HI hb; rcases hr.cases with ⟨rfl, hp⟩ | ⟨rfl, hp⟩
   case inr =>
    have HP : Hid (¬ OpenP (X k).state) := hp; clear hp hr x5 bx; go_wp2; go_roundw
    case rel => exact ⟨k + 1, m, F, by omega, by go_num, by omega, H1.out.1, H1.out.2.skip HP.out, hbw1⟩
    case measure => simp [intOf]; omega
   have HP : Hid (OpenP (X k).state) := hp; have cx : w1.cell? ⟨wr.heap.size, 2, none⟩ = some (.slice sa (X k).secs.length sc) := by simp [World.cell?, bx]
   clear hp hr bx; go_wp2; clear cx; obtain ⟨N, hN⟩ : ∃ N, N = (X k).secs.length := ⟨_, rfl⟩; have HN : Hid (N = (X k).secs.length) := hN; rw [← hN] at hlen x5 ⊢; clear hN; obtain ⟨b3, o3, d3, g3⟩ := x5
   go_loopw [25] (fun i wx => ∃ (l m' : Nat) (F' : Int → Option Int), l ≤ N ∧ i = .int .i64 l ∧ m' ≤ k * 20 + l ∧ MapIs wx w.heap.size m' F' ∧ Inv X k l F' ∧ Below w.heap.size w wx) (fun i _ => N - (intOf i).toNat)
   case atStart => exact ⟨0, m, F, Nat.zero_le _, rfl, by omega, H1.out.1, H1.out.2, hbw1⟩
   case round =>
    obtain ⟨l, m', F', hl', rfl, hm', hmap, hinv, hbx⟩ := hrel; clear H1
    by_cases hlN : l < N
    ·
     obtain rfl := d3 (by omega); have e3 : wr.cell? ⟨b3, o3 + l, none⟩ = some (.int .i64 (sV (X k) l)) := (hbx.cell (p := ⟨b3, o3 + l, none⟩) (World.block_lt_of_cell? _ _ (g3 l hlN))).trans (g3 l hlN); clear g3; obtain ⟨s, hs⟩ : ∃ s, s = sV (X k) l := ⟨_, rfl⟩; rw [← hs] at e3
     have hwf : (Lit.int .i64 s).wf = true := WalkArith.wf_i64 (by
      have := HL.out.1 l (by rw [← HN.out]; exact hlN)
      rw [hs]; omega)
     have hwk : (Lit.int .i64 (k : Int)).wf = true := WalkArith.wf_i64 (by omega); have HS : Hid (s = sV (X k) l ∧ Inv X k l F') := ⟨hs, hinv⟩; have HW : Hid ((Lit.int .i64 s).wf = true ∧ (Lit.int .i64 (k : Int)).wf = true) := ⟨hwf, hwk⟩; clear hs hinv hwf hwk hl g hd; cases hF : F' s with
     | some v =>
      have HF : Hid (F' s = some v) := hF; have e5 : (F' s).isSome = true := by rw [hF]; rfl
      clear hF
      go_wp2_with (at_lookup; refine wpList_look rfl _ _ rfl w.heap.size m' F' rfl hmap s rfl HW.out.1 ?_)
      go_ret2
      refine ⟨Or.inr ⟨rfl, ?_⟩, hbx⟩; obtain ⟨h1, h2⟩ := HS.out; rw [h1] at HF; obtain ⟨j, hj, hc⟩ := h2.clash HP.out (by rw [← HN.out]; exact hlN) HL.out HF.out; exact ⟨k, j, hlt, hj, hc⟩
     | none =>
      have HF : Hid (F' s = none) := hF; have e5 : (F' s).isSome = false := by rw [hF]; rfl
      clear hF
      go_wp2_with (first | (at_lookup; refine wpList_look rfl _ _ rfl w.heap.size m' F' rfl hmap s rfl HW.out.1 ?_) | (at_mapUpdate; refine wpList_store rfl _ _ _ rfl w.heap.size m' F' rfl hmap (by unfold maxLen; omega) s k rfl rfl HW.out.1 HW.out.2 ?_; intro w2 hmap2 hgrow2))
      go_roundw
      case rel =>
       obtain ⟨h1, h2⟩ := HS.out; refine ⟨l + 1, m' + 1, _, by omega, by go_num, by omega, hmap2, ?_, hbx.grown hgrow2 hbx.size (fun j hj => by cases hj; exact Nat.le_refl _)⟩; rw [h1] at HF ⊢; exact h2.store HP.out HF.out
      case measure => simp [intOf]; omega
    ·
     obtain rfl : l = N := by omega
     have HS : Hid (Inv X k l F') := hinv; clear hinv hl g hd g3; go_wp2; go_roundw
     case rel =>
      refine ⟨k + 1, m', F', by omega, by go_num, by omega, hmap, ?_, hbx⟩; have := HS.out; rw [HN.out] at this; exact this.done
     case measure => simp [intOf]; omega
  ·
   obtain rfl : k = n := by omega
   clear hl g hd; go_wp2
   go_ret2
   exact ⟨Or.inl ⟨w.heap.size, m, F, rfl, Nat.le_refl _, HI.out.1, HI.out.2⟩, hb⟩
end Go.Proofs.YtdlaekjofgbjcaaGreatDoor
/-
 The contract of impl.BookOk. Mine, by template (wip/gen.py).
-/
namespace Go.Proofs.YtdlaekjofgbjcaaGreatDoor
open Go.RowKit
theorem ListOk.mono {n : Nat} {V : Nat → Int} {a b : Int} (h : ListOk n V a) (hab : a ≤ b) : ListOk n V b :=
 ⟨fun i hi => ⟨(h.1 i hi).1, by have := (h.1 i hi).2.1; omega, (h.1 i hi).2.2⟩, h.2⟩
theorem noClash_of {B : Bk} {F : Int → Option Int} (h : Inv (bX B) B.orders.length 0 F) : NoClash B := fun _ hi _ hj => h.alone hi hj
theorem lock_four {B : Bk} {F : Int → Option Int} {j : Nat} {v : Int} (h : Inv (bX B) B.orders.length 0 F) (e : F (j : Int) = some v) (hl : B.locked.getD j false = true) : ¬ NoLock B := by
 obtain ⟨i, _, p1, p2⟩ := h.1 _ _ e; rcases p2 with ⟨a, q, b, c⟩ | ⟨_, q, b, _⟩
 ·
  intro hn; refine hn i a ⟨p1, q, b, ?_⟩; rw [c]
  simpa using hl
 · omega
theorem lock_none {B : Bk} {F : Int → Option Int} (hs : SizesOk B) (ha : AllOrd B) (h : Inv (bX B) B.orders.length 0 F) (hl : ∀ j, j < B.locked.length → ¬ ((F (j : Int)).isSome = true ∧ B.locked.getD j false = true)) : NoLock B := by
 rintro i hi ⟨o1, q, hq, e⟩; have hb := (ha i hi).2.2.1.1 q hq; have hL := hs.2.1; have hF := h.2 (sV (bX B i) q) i ⟨o1, Or.inl ⟨hi, q, hq, rfl⟩⟩; refine hl (sV (bX B i) q).toNat (by omega) ⟨?_, e⟩; rw [show (((sV (bX B i) q).toNat : Nat) : Int) = sV (bX B i) q by omega, hF]; rfl
set_option maxHeartbeats 4000000 in
theorem implBookOk_any (v : Value) (B : Bk) (w : World) (ho : B.orders.length ≤ 1048576) (hs : ∀ i, i < B.orders.length → (bX B i).secs.length ≤ 1048576 ∧ (bX B i).holder.size ≤ 1048576) (G : BookAt w v B) :
  Calls Tryz.prog 11 #[v] w fun e w' => RetC e B ∧ Below w.heap.size w w' := by
 obtain ⟨ao, co, al, cl, ac, cc, rfl, ⟨b, o, hd, g⟩, p2, p3⟩ := G; have g' : ∀ i, i < B.orders.length → ∃ sa sc, OrdAt w b (o + i * 4) (bX B i) sa sc := g; clear g p3; have B1 := below1 w (.cells #[.int .i64 B.n, .slice ao B.orders.length co, .slice al B.locked.length cl, .slice ac B.occ.length cc] 37)
 go_enter Tryz.func11, Tryz.ntmps11
 go_wp2_with fail
 refine (sizesOk_any B ao al ac co cl cc _ (by omega)).mono ?_; rintro e w1 ⟨hr, hb1⟩; have bx : w1.heap[w.heap.size]? = some (.cells #[.int .i64 B.n, .slice ao B.orders.length co, .slice al B.locked.length cl, .slice ac B.occ.length cc] 37 (0, 0)) := (hb1.block _ (by simp)).trans (Deep.blk_alloc_new _ _); have hbw1 : Below w.heap.size w w1 := B1.trans (hb1.mono (by simp)); have z1 : w.heap.size < w1.heap.size := by have := hb1.size; simp at this; omega
 clear hb1 B1; rcases hr.cases with ⟨rfl, hp⟩ | ⟨rfl, hp⟩
 case inr =>
  have HP : Hid (¬ SizesOk B) := hp; clear hp hr bx; go_wp2; go_ret; exact ⟨RetC.one HP.out, hbw1⟩
 have HS : Hid (SizesOk B) := hp; clear hp hr; have cx1 : w1.cell? ⟨w.heap.size, 1, none⟩ = some (.slice ao B.orders.length co) := by simp [World.cell?, bx]
 go_wp2; clear cx1; obtain ⟨O, hO⟩ : ∃ O, O = B.orders.length := ⟨_, rfl⟩; obtain ⟨L, hL⟩ : ∃ L, L = B.locked.length := ⟨_, rfl⟩; obtain ⟨C, hC⟩ : ∃ C, C = B.occ.length := ⟨_, rfl⟩; have HO : Hid (O = B.orders.length) := hO; have HL : Hid (L = B.locked.length) := hL; rw [← hO, ← hL, ← hC] at bx; rw [← hO, ← hL, ← hC]; rw [← hO] at ho hs hd g'; rw [← hL] at p2; clear hO hL hC
 go_loopw [17] (fun i wr => ∃ k : Nat, k ≤ O ∧ i = .int .i64 k ∧ (∀ j, j < k → OrdOk (bX B j) B.n) ∧ Below w1.heap.size w1 wr) (fun i _ => O - (intOf i).toNat)
 case atStart => exact ⟨0, Nat.zero_le _, rfl, fun j hj => absurd hj (by omega), Below.refl _ _⟩
 case round =>
  obtain ⟨k, hk, rfl, hall, hb⟩ := hrel; have HA : Hid (∀ j, j < k → OrdOk (bX B j) B.n) := hall; have hbw : Below w.heap.size w wr := below_trans hbw1 hbw1.size hb; have bxr := (hb.block _ z1).trans bx; clear hall
  by_cases hlt : k < O
  ·
   obtain rfl := hd (by omega); obtain ⟨sa, sc, q⟩ := g' k hlt; have hsk := hs k hlt; obtain ⟨x0, x1, x2, x3, x4⟩ := q.below hbw; have c0 : wr.cell? ⟨w.heap.size, 0, none⟩ = some (.int .i64 B.n) := by simp [World.cell?, bxr]
   have zr : w.heap.size < wr.heap.size := Nat.lt_of_lt_of_le z1 hb.size; clear q g' hs hd p2 bx bxr
   go_wp2_with fail
   refine (orderOk_any (bX B k) sa sc B.n _ (by omega) (by omega) (x4.below (below1 _ _))).mono ?_; rintro e w2 ⟨hr, hb2⟩; have hb3 : Below w1.heap.size w1 w2 := (hb.alloc hb.size _).trans (hb2.mono (by have := hb.size; simp; omega)); have hbw2 : Below w.heap.size w w2 := below_trans hbw1 hbw1.size hb3; clear hb2 x0 x1 x2 x3 x4 c0 hb hbw; rcases hr.cases with ⟨rfl, hp⟩ | ⟨rfl, hp⟩
   ·
    have HP : Hid (OrdOk (bX B k) B.n) := hp; clear hp hr; go_wp2; go_roundw
    case rel =>
     refine ⟨k + 1, by omega, by go_num, fun j hj => ?_, hb3⟩
     by_cases e : j = k
     · subst e; exact HP.out
     · exact HA.out j (by omega)
    case measure => simp [intOf]; omega
   ·
    have HP : Hid (¬ OrdOk (bX B k) B.n) := hp; clear hp hr; go_wp2; go_ret; exact ⟨RetC.two HS.out (fun u => HP.out (u k (by rw [← HO.out]; exact hlt))), hbw2⟩
  ·
   obtain rfl : k = O := by omega
   have HAll : Hid (AllOrd B) := fun i hi => HA.out i (by rw [HO.out]; exact hi); have cx1 : wr.cell? ⟨w.heap.size, 1, none⟩ = some (.slice ao k co) := by simp [World.cell?, bxr]
   have zr : w.heap.size < wr.heap.size := Nat.lt_of_lt_of_le z1 hb.size
   have Kx : ∃ b o, (0 < k → ao = some ⟨b, o, none⟩) ∧ ∀ i, i < k → ∃ sa sc, OrdAt wr b (o + i * 4) (bX B i) sa sc := ⟨b, o, hd, fun i hi => by
    obtain ⟨sa, sc, q⟩ := g' i hi
    exact ⟨sa, sc, q.below hbw⟩⟩
   have hl60 : ∀ i, i < k → ListOk (bX B i).secs.length (sV (bX B i)) 60 := fun i hi => (HAll.out i (by rw [← HO.out]; exact hi)).2.2.1.mono HS.out.1.2; have HB0 : Hid (wr.heap[w.heap.size]? = some (.cells #[.int .i64 B.n, .slice ao k co, .slice al L cl, .slice ac C cc] 37 (0, 0))) := bxr; have HKx : Hid ((∃ b o, (0 < k → ao = some ⟨b, o, none⟩) ∧ ∀ i, i < k → ∃ sa sc, OrdAt wr b (o + i * 4) (bX B i) sa sc) ∧ ∀ i, i < k → ListOk (bX B i).secs.length (sV (bX B i)) 60) := ⟨Kx, hl60⟩; clear g' hs hd bx bxr hb Kx hl60 hbw1
   go_wp2_with fail
   refine (sectionOwners_any ao co k (bX B) _ ho HKx.out.2 HKx.out.1).mono ?_; rintro e w2 ⟨hr, hb2⟩; have hbw2 : Below w.heap.size w w2 := below_trans hbw hbw.size hb2; have bx2 : w2.heap[w.heap.size]? = some (.cells #[.int .i64 B.n, .slice ao k co, .slice al L cl, .slice ac C cc] 37 (0, 0)) := (hb2.block _ zr).trans HB0.out; have zr2 : w.heap.size < w2.heap.size := Nat.lt_of_lt_of_le zr hb2.size; clear hb2 cx1 hbw HB0 HKx; rcases hr with ⟨gm, m, F, rfl, hgm, hmap, hinv⟩ | ⟨rfl, i, j, hi, hj, hc⟩
   ·
    have HI : Hid (Inv (bX B) k 0 F) := hinv; clear hinv; have cx2 : w2.cell? ⟨w.heap.size, 2, none⟩ = some (.slice al L cl) := by simp [World.cell?, bx2]
    go_wp2; clear cx2; obtain ⟨b4, o4, d4, g4⟩ := p2; have HINV : Hid (Inv (bX B) B.orders.length 0 F) := by have := HI.out; rw [HO.out] at this; exact this
    go_loopw [38] (fun i wx => ∃ l : Nat, l ≤ L ∧ i = .int .i64 l ∧ (∀ j, j < l → ¬ ((F (j : Int)).isSome = true ∧ B.locked.getD j false = true)) ∧ Below w2.heap.size w2 wx) (fun i _ => L - (intOf i).toNat)
    case atStart => exact ⟨0, Nat.zero_le _, rfl, fun j hj => absurd hj (by omega), Below.refl _ _⟩
    case round =>
     obtain ⟨l, hl, rfl, hall, hbx⟩ := hrel; have HX : Hid (∀ j, j < l → ¬ ((F (j : Int)).isSome = true ∧ B.locked.getD j false = true)) := hall; have hbwx : Below w.heap.size w wr := below_trans hbw2 hbw2.size hbx; have hmx := hmap.below hbx; clear hall
     by_cases hlL : l < L
     ·
      obtain rfl := d4 (by omega); have e4 : wr.cell? ⟨b4, o4 + l, none⟩ = some (.bool (B.locked.getD l false)) := (hbwx.cell (p := ⟨b4, o4 + l, none⟩) (World.block_lt_of_cell? _ _ (g4 l hlL))).trans (g4 l hlL); have hL60 : L ≤ 60 := by have h1 := HS.out.1.2; have h2 := HS.out.2.1; rw [← HL.out] at h2; omega
      have HW : Hid ((Lit.int .i64 (l : Int)).wf = true) := WalkArith.wf_i64 (by omega); obtain ⟨lk, hlk⟩ : ∃ lk, lk = B.locked.getD l false := ⟨_, rfl⟩; rw [← hlk] at e4; have HLk : Hid (lk = B.locked.getD l false) := hlk; clear hlk g4 d4; cases hF : F (l : Int) with
      | some u =>
       have HF : Hid (F (l : Int) = some u) := hF; have e5 : (F (l : Int)).isSome = true := by rw [hF]; rfl
       clear hF; cases lk with
       | true =>
        go_wp2_with (at_lookup; refine wpList_look rfl _ _ rfl gm m F rfl hmx l rfl HW.out ?_)
        go_ret; exact ⟨RetC.four HS.out HAll.out (noClash_of HINV.out) (lock_four HINV.out HF.out HLk.out.symm), hbwx⟩
       | false =>
        go_wp2_with (at_lookup; refine wpList_look rfl _ _ rfl gm m F rfl hmx l rfl HW.out ?_)
        go_roundw
        case rel =>
         refine ⟨l + 1, by omega, by go_num, fun j hj => ?_, hbx⟩
         by_cases e : j = l
         · subst e; rw [← HLk.out]; exact fun u => by cases u.2
         · exact HX.out j (by omega)
        case measure => simp [intOf]; omega
      | none =>
       have HF : Hid (F (l : Int) = none) := hF; have e5 : (F (l : Int)).isSome = false := by rw [hF]; rfl
       clear hF
       go_wp2_with (at_lookup; refine wpList_look rfl _ _ rfl gm m F rfl hmx l rfl HW.out ?_)
       go_roundw
       case rel =>
        refine ⟨l + 1, by omega, by go_num, fun j hj => ?_, hbx⟩
        by_cases e : j = l
        · subst e; rw [HF.out]; exact fun u => by cases u.1
        · exact HX.out j (by omega)
       case measure => simp [intOf]; omega
     ·
      obtain rfl : l = L := by omega
      clear g4 d4; go_wp2; go_ret; exact ⟨RetC.zero HS.out HAll.out (noClash_of HINV.out) (lock_none HS.out HAll.out HINV.out (fun j hj => HX.out j (by rw [HL.out]; exact hj))), hbwx⟩
   ·
    have HC : Hid (¬ NoClash B) := fun u => u i (by rw [← HO.out]; exact hi) j hj hc; clear hc p2; go_wp2; go_ret; exact ⟨RetC.three HS.out HAll.out HC.out, hbw2⟩
end Go.Proofs.YtdlaekjofgbjcaaGreatDoor
