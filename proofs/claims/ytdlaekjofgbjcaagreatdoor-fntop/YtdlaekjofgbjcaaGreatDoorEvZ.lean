import Derived.Test.YtdlaekjofgbjcaaGreatDoorTextZ
import Derived.Test.YtdlaekjofgbjcaaGreatDoorBaseZ
import Derived.Test.YtdlaekjofgbjcaaGreatDoorMapZ
import Derived.Test.YtdlaekjofgbjcaaGreatDoorMarks
/-
 Events, as lists; which can be told of a book. Mine, by template (wip/gen.py).
-/
namespace Go.Proofs.YtdlaekjofgbjcaaGreatDoor
open Go.RowKit
structure Ev where
 op : Int
 of_ : Int
 holder : ByteArray
 kind : Int
 secs : List Int
 text : ByteArray
def eOrd (E : Ev) : Ord := ⟨E.holder, E.kind, E.secs, 1⟩
def EvAt (w : World) (v : Value) (E : Ev) : Prop :=
 ∃ ad c, v = .agg #[.int .i64 E.op, .int .i64 E.of_, .string E.holder, .int .i64 E.kind, .slice ad E.secs.length c, .string E.text] ∧ Cells w ad E.secs.length (iV E.secs)
theorem EvAt.below {w w' : World} {v : Value} {E : Ev} (h : EvAt w v E) (hb : Below w.heap.size w w') : EvAt w' v E := by
 obtain ⟨ad, c, e, h1⟩ := h; exact ⟨ad, c, e, h1.below hb⟩
def EvForm (B : Bk) (E : Ev) : Prop :=
 (E.op = 1 ∧ E.of_ = 0 ∧ NameOk E.holder ∧ In E.kind 1 2 ∧ ListOk E.secs.length (sV (eOrd E)) B.n ∧ E.text.size = 0) ∨
 ((E.op = 2 ∨ E.op = 5) ∧ In E.of_ 0 (B.orders.length - 1) ∧ E.holder.size = 0 ∧ E.kind = 0 ∧ E.secs.length = 0 ∧ E.text.size = 0) ∨
 (E.op = 3 ∧ In E.of_ 0 (B.orders.length - 1) ∧ NameOk E.holder ∧ E.kind = 0 ∧ E.secs.length = 0 ∧ E.text.size ≤ 200) ∨
 (E.op = 4 ∧ In E.of_ 0 (B.orders.length - 1) ∧ NameOk E.holder ∧ E.kind = 0 ∧ E.secs.length = 0 ∧ E.text.size = 0) ∨
 (In E.op 6 9 ∧ In E.of_ 0 (B.n - 1) ∧ E.holder.size = 0 ∧ E.kind = 0 ∧ E.secs.length = 0 ∧ E.text.size = 0)
def EvOk (B : Bk) (E : Ev) : Prop := Right B ∧ EvForm B E
theorem EvOk.at1 {B : Bk} {E : Ev} (h : EvOk B E) (o : E.op = 1) : E.of_ = 0 ∧ NameOk E.holder ∧ In E.kind 1 2 ∧ ListOk E.secs.length (sV (eOrd E)) B.n ∧ E.text.size = 0 := by
 rcases h.2 with q | q | q | q | q
 · exact q.2
 · omega
 · omega
 · omega
 · have := q.1; unfold In at this; omega
theorem EvOk.at25 {B : Bk} {E : Ev} (h : EvOk B E) (o : E.op = 2 ∨ E.op = 5) : In E.of_ 0 (B.orders.length - 1) ∧ E.holder.size = 0 ∧ E.kind = 0 ∧ E.secs.length = 0 ∧ E.text.size = 0 := by
 rcases h.2 with q | q | q | q | q
 · omega
 · exact q.2
 · omega
 · omega
 · have := q.1; unfold In at this; omega
theorem EvOk.at3 {B : Bk} {E : Ev} (h : EvOk B E) (o : E.op = 3) : In E.of_ 0 (B.orders.length - 1) ∧ NameOk E.holder ∧ E.kind = 0 ∧ E.secs.length = 0 ∧ E.text.size ≤ 200 := by
 rcases h.2 with q | q | q | q | q
 · omega
 · omega
 · exact q.2
 · omega
 · have := q.1; unfold In at this; omega
theorem EvOk.at4 {B : Bk} {E : Ev} (h : EvOk B E) (o : E.op = 4) : In E.of_ 0 (B.orders.length - 1) ∧ NameOk E.holder ∧ E.kind = 0 ∧ E.secs.length = 0 ∧ E.text.size = 0 := by
 rcases h.2 with q | q | q | q | q
 · omega
 · omega
 · omega
 · exact q.2
 · have := q.1; unfold In at this; omega
theorem EvOk.at6 {B : Bk} {E : Ev} (h : EvOk B E) (o : In E.op 6 9) : In E.of_ 0 (B.n - 1) ∧ E.holder.size = 0 ∧ E.kind = 0 ∧ E.secs.length = 0 ∧ E.text.size = 0 := by
 unfold In at o; rcases h.2 with q | q | q | q | q
 · omega
 · omega
 · omega
 · omega
 · exact q.2
theorem EvOk.some {B : Bk} {E : Ev} (h : EvOk B E) : In E.op 1 9 := by
 unfold In; rcases h.2 with q | q | q | q | q
 · omega
 · omega
 · omega
 · omega
 · have := q.1; unfold In at this; omega
theorem str_eq_nil (s : ByteArray) : s = ByteArray.empty ↔ s.size = 0 := by
 constructor
 · rintro rfl; rfl
 ·
  intro h; apply ByteArray.ext; exact Array.eq_empty_of_size_eq_zero h
theorem isE_t {s : ByteArray} (h : s.size = 0) : s.toList.isEmpty = true := by
 rw [← decide_eq_emptyBytes]; exact decide_eq_true ((str_eq_nil s).2 h)
theorem isE_f {s : ByteArray} (h : ¬ s.size = 0) : s.toList.isEmpty = false := by
 rw [← decide_eq_emptyBytes]; exact decide_eq_false (fun e => h ((str_eq_nil s).1 e))
theorem len0_t {n : Nat} (h : n = 0) : ((n : Int) == 0) = true := by subst h; rfl
theorem len0_f {n : Nat} (h : ¬ n = 0) : ((n : Int) == 0) = false := beq_eq_false_iff_ne.2 (by omega)
end Go.Proofs.YtdlaekjofgbjcaaGreatDoor
/-
 The contracts of spec.Who, impl.Who. Mine, by template (wip/gen.py).
-/
namespace Go.Proofs.YtdlaekjofgbjcaaGreatDoor
open Go.RowKit
def Has (x : Ord) (s : Int) : Prop := OpenP x.state ∧ HasS x x.secs.length s
def WhoIs (B : Bk) (s r : Int) : Prop :=
 (¬ Right B ∧ r = -1) ∨ (Right B ∧ ∃ i : Nat, i < B.orders.length ∧ r = i ∧ Has (bX B i) s) ∨ (Right B ∧ r = -1 ∧ ∀ i, i < B.orders.length → ¬ Has (bX B i) s)
theorem WhoIs.det {B : Bk} {s r q : Int} (h : WhoIs B s r) (k : WhoIs B s q) : r = q := by
 rcases h with ⟨h1, h2⟩ | ⟨h1, i, h2, h3, h4⟩ | ⟨h1, h2, h3⟩ <;> rcases k with ⟨k1, k2⟩ | ⟨k1, j, k2, k3, k4⟩ | ⟨k1, k2, k3⟩
 · omega
 · exact absurd k1 h1
 · exact absurd k1 h1
 · exact absurd h1 k1
 ·
  have hij : i = j := by
   obtain ⟨o1, a, a1, a2⟩ := h4; obtain ⟨o2, b, b1, b2⟩ := k4; rcases Nat.lt_trichotomy i j with hlt | e | hlt
   · exact absurd ⟨o2, o1, b, a, b1, a1, by rw [a2, b2]⟩ (h1.2.2.1 j k2 i hlt)
   · exact e
   · exact absurd ⟨o1, o2, a, b, a1, b1, by rw [a2, b2]⟩ (h1.2.2.1 i h2 j hlt)
  omega
 · exact absurd h4 (k3 i h2)
 · exact absurd h1 k1
 · exact absurd k4 (h3 j k2)
 · omega
def RetW (e : Ending) (B : Bk) (s : Int) : Prop := ∃ r, e = .returned (.int .i64 r) ∧ WhoIs B s r
theorem one_cell (w : World) (u : Value) (t : TypeId) : Cells (w.alloc (.cells #[u] t)) (some ⟨w.heap.size, 0, none⟩) 1 (fun _ => u) :=
 ⟨w.heap.size, 0, fun _ => rfl, fun i hi => by
  obtain rfl : i = 0 := by omega
  simp [go_sem]⟩
theorem meet_one {n : Nat} {V : Nat → Int} {s : Int} : Meet n 1 V (fun _ => s) ↔ ∃ q, q < n ∧ V q = s :=
 ⟨fun ⟨i, _, h1, _, h3⟩ => ⟨i, h1, h3⟩, fun ⟨i, h1, h3⟩ => ⟨i, 0, h1, by omega, h3⟩⟩
set_option maxHeartbeats 2000000 in
theorem specWho_any (v : Value) (B : Bk) (s : Int) (w : World) (ho : B.orders.length ≤ 1048576) (hs : ∀ i, i < B.orders.length → (bX B i).secs.length ≤ 1048576 ∧ (bX B i).holder.size ≤ 1048576) (hw : -9223372036854775808 ≤ B.n ∧ B.n ≤ 9223372036854775807) (G : BookAt w v B) :
  Calls Tryz.prog 58 #[v, .int .i64 s] w fun e w' => RetW e B s ∧ Below w.heap.size w w' := by
 have G0 := G; obtain ⟨ao, co, al, cl, ac, cc, rfl, ⟨b, o, hd, g⟩, -⟩ := G; have g' : ∀ i, i < B.orders.length → ∃ sa sc, OrdAt w b (o + i * 4) (bX B i) sa sc := g; have HG : Hid (BookAt w (.agg #[.int .i64 B.n, .slice ao B.orders.length co, .slice al B.locked.length cl, .slice ac B.occ.length cc]) B) := G0; clear G0 g
 go_enter Tryz.func58, Tryz.ntmps58
 go_wp2_with fail
 have B1 := below1 w (.cells #[.int .i64 B.n, .slice ao B.orders.length co, .slice al B.locked.length cl, .slice ac B.occ.length cc] 37); refine (specBookOk_any _ B _ ho hs hw (HG.out.below B1)).mono ?_; rintro e w1 ⟨⟨c, rfl, hc⟩, hb1⟩; have bx : w1.heap[w.heap.size]? = some (.cells #[.int .i64 B.n, .slice ao B.orders.length co, .slice al B.locked.length cl, .slice ac B.occ.length cc] 37 (0, 0)) := (hb1.block _ (by simp)).trans (Deep.blk_alloc_new _ _); have hbw1 : Below w.heap.size w w1 := B1.trans (hb1.mono (by simp)); have z1 : w.heap.size < w1.heap.size := by have := hb1.size; simp at this; omega
 clear hb1 B1
 by_cases c0 : c = 0
 case neg =>
  have HR : Hid (¬ Right B) := fun r => c0 (hc.right.2 r); have t : (c != 0) = true := by simpa using c0
  clear hc bx c0 hd g' hs; go_wp2; go_ret; exact ⟨⟨_, rfl, Or.inl ⟨HR.out, rfl⟩⟩, hbw1⟩
 have HR : Hid (Right B) := hc.right.1 c0; subst c0; clear hc; have cx1 : w1.cell? ⟨w.heap.size, 1, none⟩ = some (.slice ao B.orders.length co) := by simp [World.cell?, bx]
 go_wp2; clear cx1; obtain ⟨O, hO⟩ : ∃ O, O = B.orders.length := ⟨_, rfl⟩; have HO : Hid (O = B.orders.length) := hO; rw [← hO] at ho hs hd g' ⊢; clear hO bx
 go_loopw [13] (fun i wr => ∃ k : Nat, k ≤ O ∧ i = .int .i64 k ∧ (∀ j, j < k → ¬ Has (bX B j) s) ∧ Below w1.heap.size w1 wr) (fun i _ => O - (intOf i).toNat)
 case atStart => exact ⟨0, Nat.zero_le _, rfl, fun j hj => absurd hj (by omega), Below.refl _ _⟩
 case round =>
  obtain ⟨k, hk, rfl, hall, hb⟩ := hrel; have HA : Hid (∀ j, j < k → ¬ Has (bX B j) s) := hall; have hbw : Below w.heap.size w wr := below_trans hbw1 hbw1.size hb; clear hall
  by_cases hlt : k < O
  ·
   obtain rfl := hd (by omega); obtain ⟨sa, sc, q⟩ := g' k hlt; have hsk := hs k hlt; obtain ⟨x0, x1, x2, x3, x4⟩ := q.below hbw; clear q g' hs hd
   go_wp2_with fail
   refine (l1open_any _ _ _ (bX B k).state _).mono ?_; rintro e w2 ⟨hr, hb2⟩; have st : Below wr.heap.size wr w2 := (below1 _ _).trans (hb2.mono (by simp)); have bx2 : w2.heap[wr.heap.size]? = some (.cells #[.string (bX B k).holder, .int .i64 (bX B k).kind, .slice sa (bX B k).secs.length sc, .int .i64 (bX B k).state] 41 (0, 0)) := (hb2.block _ (by simp)).trans (Deep.blk_alloc_new _ _); have hb3 : Below w1.heap.size w1 w2 := below_trans hb hb.size st; have hbw3 := below_trans hbw1 hbw1.size hb3; have x5 : Cells w2 sa (bX B k).secs.length (fun i => .int .i64 (sV (bX B k) i)) := x4.below st; have z2 : wr.heap.size < w2.heap.size := by have := hb2.size; simp at this; omega
   have f2 : w2.cell? ⟨wr.heap.size, 2, none⟩ = some (.slice sa (bX B k).secs.length sc) := by simp [World.cell?, bx2]
   clear hb2 x0 x1 x2 x3 x4 hb hbw st bx2; rcases hr.cases with ⟨rfl, hp⟩ | ⟨rfl, hp⟩
   ·
    have HP : Hid (OpenP (bX B k).state) := hp; clear hp hr
    go_wp2_with fail
    have st4 : Below w2.heap.size w2 (w2.alloc (.cells #[.int .i64 s] 3)) := below1 _ _; have one : Cells (w2.alloc (.cells #[.int .i64 s] 3)) (some ⟨w2.heap.size, 0, none⟩) 1 (fun _ => .int .i64 s) := one_cell _ _ _; refine (l1meet_any sa (some ⟨w2.heap.size, 0, none⟩) sc 1 _ 1 (sV (bX B k)) (fun _ => s) _ (by omega) (by omega) (x5.below st4) one).mono ?_; rintro e w5 ⟨hr, rfl⟩; have hb5 : Below w1.heap.size w1 (w2.alloc (.cells #[.int .i64 s] 3)) := below_trans hb3 hb3.size st4; have hbw5 := below_trans hbw1 hbw1.size hb5; clear st4 one x5; rcases hr.cases with ⟨rfl, hp⟩ | ⟨rfl, hp⟩
    ·
     have HM : Hid (Has (bX B k) s) := ⟨HP.out, meet_one.1 hp⟩; clear hp hr; go_wp2; go_ret; exact ⟨⟨_, rfl, Or.inr (Or.inl ⟨HR.out, k, by rw [← HO.out]; exact hlt, rfl, HM.out⟩)⟩, hbw5⟩
    ·
     have HM : Hid (¬ Has (bX B k) s) := fun u => hp (meet_one.2 u.2); clear hp hr; go_wp2; go_roundw
     case rel =>
      refine ⟨k + 1, by omega, by go_num, fun j hj => ?_, hb5⟩
      by_cases e : j = k
      · subst e; exact HM.out
      · exact HA.out j (by omega)
     case measure => simp [intOf]; omega
   ·
    have HM : Hid (¬ Has (bX B k) s) := fun u => hp u.1; clear hp hr x5; go_wp2; go_roundw
    case rel =>
     refine ⟨k + 1, by omega, by go_num, fun j hj => ?_, hb3⟩
     by_cases e : j = k
     · subst e; exact HM.out
     · exact HA.out j (by omega)
    case measure => simp [intOf]; omega
  ·
   obtain rfl : k = O := by omega
   clear g' hs hd; go_wp2; go_ret; exact ⟨⟨_, rfl, Or.inr (Or.inr ⟨HR.out, rfl, fun i hi => HA.out i (by rw [HO.out]; exact hi)⟩)⟩, hbw⟩
theorem whoIs_some {B : Bk} {s v : Int} {F : Int → Option Int} (hr : Right B) (h : Inv (bX B) B.orders.length 0 F) (e : F s = some v) : WhoIs B s v := by
 obtain ⟨i, hv, p1, p2⟩ := h.1 _ _ e; rcases p2 with ⟨a, b⟩ | ⟨_, q, b, _⟩
 · exact Or.inr (Or.inl ⟨hr, i, a, hv, p1, b⟩)
 · omega
theorem whoIs_none {B : Bk} {s : Int} {F : Int → Option Int} (hr : Right B) (h : Inv (bX B) B.orders.length 0 F) (e : F s = none) : WhoIs B s (-1) :=
 Or.inr (Or.inr ⟨hr, rfl, fun i hi u => by
  have := h.2 s i ⟨u.1, Or.inl ⟨hi, u.2⟩⟩; rw [e] at this
  cases this⟩)
set_option maxHeartbeats 2000000 in
theorem implWho_any (v : Value) (B : Bk) (s : Int) (w : World) (ho : B.orders.length ≤ 1048576) (hs : ∀ i, i < B.orders.length → (bX B i).secs.length ≤ 1048576 ∧ (bX B i).holder.size ≤ 1048576) (hws : (Lit.int .i64 s).wf = true) (G : BookAt w v B) :
  Calls Tryz.prog 101 #[v, .int .i64 s] w fun e w' => RetW e B s ∧ Below w.heap.size w w' := by
 have G0 := G; obtain ⟨ao, co, al, cl, ac, cc, rfl, ⟨b, o, hd, g⟩, -⟩ := G; have g' : ∀ i, i < B.orders.length → ∃ sa sc, OrdAt w b (o + i * 4) (bX B i) sa sc := g; have HG : Hid (BookAt w (.agg #[.int .i64 B.n, .slice ao B.orders.length co, .slice al B.locked.length cl, .slice ac B.occ.length cc]) B ∧ (Lit.int .i64 s).wf = true) := ⟨G0, hws⟩; clear G0 g hws
 go_enter Tryz.func101, Tryz.ntmps101
 go_wp2_with fail
 have B1 := below1 w (.cells #[.int .i64 B.n, .slice ao B.orders.length co, .slice al B.locked.length cl, .slice ac B.occ.length cc] 37); refine (implBookOk_any _ B _ ho hs (HG.out.1.below B1)).mono ?_; rintro e w1 ⟨⟨c, rfl, hc⟩, hb1⟩; have bx : w1.heap[w.heap.size]? = some (.cells #[.int .i64 B.n, .slice ao B.orders.length co, .slice al B.locked.length cl, .slice ac B.occ.length cc] 37 (0, 0)) := (hb1.block _ (by simp)).trans (Deep.blk_alloc_new _ _); have hbw1 : Below w.heap.size w w1 := B1.trans (hb1.mono (by simp)); have z1 : w.heap.size < w1.heap.size := by have := hb1.size; simp at this; omega
 clear hb1 B1
 by_cases c0 : c = 0
 case neg =>
  have HR : Hid (¬ Right B) := fun r => c0 (hc.right.2 r); have t : (c != 0) = true := by simpa using c0
  clear hc bx c0 hd g' hs; go_wp2; go_ret; exact ⟨⟨_, rfl, Or.inl ⟨HR.out, rfl⟩⟩, hbw1⟩
 have HR : Hid (Right B) := hc.right.1 c0; subst c0; clear hc; have cx1 : w1.cell? ⟨w.heap.size, 1, none⟩ = some (.slice ao B.orders.length co) := by simp [World.cell?, bx]
 have HK : Hid ((∃ b o, (0 < B.orders.length → ao = some ⟨b, o, none⟩) ∧ ∀ i, i < B.orders.length → ∃ sa sc, OrdAt w1 b (o + i * 4) (bX B i) sa sc) ∧ ∀ i, i < B.orders.length → ListOk (bX B i).secs.length (sV (bX B i)) 60) :=
  ⟨⟨b, o, hd, fun i hi => by obtain ⟨sa, sc, q⟩ := g' i hi; exact ⟨sa, sc, q.below hbw1⟩⟩, fun i hi => (HR.out.2.1 i hi).2.2.1.mono HR.out.1.1.2⟩
 clear hd g' hs bx
 go_wp2_with fail
 refine (sectionOwners_any ao co _ (bX B) _ ho HK.out.2 HK.out.1).mono ?_; rintro e w2 ⟨hr, hb2⟩; have hbw2 : Below w.heap.size w w2 := below_trans hbw1 hbw1.size hb2; clear hb2 cx1 hbw1 HK; rcases hr with ⟨gm, m, F, rfl, hgm, hmap, hinv⟩ | ⟨rfl, i, j, hi, hj, hc⟩
 ·
  have HI : Hid (Inv (bX B) B.orders.length 0 F) := hinv; clear hinv; cases hF : F s with
  | some u =>
   have HF : Hid (F s = some u) := hF; have e5 : (F s).isSome = true := by rw [hF]; rfl
   have e6 : (F s).getD 0 = u := by rw [hF]; rfl
   clear hF
   go_wp2_with (at_lookup; refine wpList_look rfl _ _ rfl gm m F rfl hmap s rfl HG.out.2 ?_)
   go_ret; exact ⟨⟨u, rfl, whoIs_some HR.out HI.out HF.out⟩, hbw2⟩
  | none =>
   have HF : Hid (F s = none) := hF; have e5 : (F s).isSome = false := by rw [hF]; rfl
   have e6 : (F s).getD 0 = 0 := by rw [hF]; rfl
   clear hF
   go_wp2_with (at_lookup; refine wpList_look rfl _ _ rfl gm m F rfl hmap s rfl HG.out.2 ?_)
   go_ret; exact ⟨⟨-1, rfl, whoIs_none HR.out HI.out HF.out⟩, hbw2⟩
 · exact absurd hc (HR.out.2.2.1 i hi j hj)
end Go.Proofs.YtdlaekjofgbjcaaGreatDoor
/-
 What an event does to a book, as plain notions. Mine, by template (wip/gen.py).
-/
namespace Go.Proofs.YtdlaekjofgbjcaaGreatDoor
open Go.RowKit
def setSt (x : Ord) (s : Int) : Ord := ⟨x.holder, x.kind, x.secs, s⟩
def setState (B : Bk) (i : Nat) (s : Int) : Bk := ⟨B.n, B.orders.set i (setSt (bX B i) s), B.locked, B.occ⟩
def addOrd (B : Bk) (x : Ord) : Bk := ⟨B.n, B.orders ++ [x], B.locked, B.occ⟩
def setLock (B : Bk) (i : Nat) (r : Bool) : Bk := ⟨B.n, B.orders, B.locked.set i r, B.occ⟩
def setOcc (B : Bk) (i : Nat) (r : Bool) : Bk := ⟨B.n, B.orders, B.locked, B.occ.set i r⟩
def zeroBk : Bk := ⟨0, [], [], []⟩
def Taken (B : Bk) (i : Nat) : Prop := ∃ j, j < B.orders.length ∧ OpenP (bX B j).state ∧ Meet (bX B j).secs.length (bX B i).secs.length (sV (bX B j)) (sV (bX B i))
open Classical in
noncomputable def giveC (B : Bk) (i : Nat) : Int :=
 if (bX B i).state ≠ 1 then 2 else if Taken B i then 3 else if Marked B.locked (bX B i) then 4 else if (bX B i).kind = 2 ∧ Marked B.occ (bX B i) then 5 else 0
open Classical in
noncomputable def doGive (B : Bk) (i : Nat) : Int × Bk := if giveC B i = 0 then (0, setState B i 2) else (giveC B i, B)
open Classical in
noncomputable def doRepeat (B : Bk) (i : Nat) (h t : ByteArray) : Int × Bk :=
 if (bX B i).state ≠ 2 then (2, B) else if (bX B i).holder ≠ h then (3, B) else if ¬ OrdT B i (bl t) then (4, setState B i 5) else (0, setState B i 3)
open Classical in
noncomputable def doBack (B : Bk) (i : Nat) (h : ByteArray) : Int × Bk :=
 if (bX B i).state ≠ 3 then (2, B) else if (bX B i).holder ≠ h then (3, B) else (0, setState B i 4)
noncomputable def doCancel (B : Bk) (i : Nat) : Int × Bk :=
 if (bX B i).state ≠ 1 ∧ (bX B i).state ≠ 2 then (2, B) else (0, setState B i 5)
open Classical in
noncomputable def doLock (B : Bk) (s : Int) : Int × Bk :=
 if ∃ j, j < B.orders.length ∧ Has (bX B j) s then (3, B) else (0, setLock B s.toNat true)
noncomputable def doWrite (B : Bk) (x : Ord) : Int × Bk := if B.orders.length < 200 then (0, addOrd B x) else (2, B)
open Classical in
noncomputable def doP (B : Bk) (E : Ev) : Int × Bk :=
 if ¬ EvOk B E then (1, zeroBk)
 else if E.op = 1 then doWrite B (eOrd E)
 else if E.op = 2 then doGive B E.of_.toNat
 else if E.op = 3 then doRepeat B E.of_.toNat E.holder E.text
 else if E.op = 4 then doBack B E.of_.toNat E.holder
 else if E.op = 5 then doCancel B E.of_.toNat
 else if E.op = 6 then doLock B E.of_
 else if E.op = 7 then (0, setLock B E.of_.toNat false)
 else if E.op = 8 then (0, setOcc B E.of_.toNat true)
 else (0, setOcc B E.of_.toNat false)
theorem doP_none {B : Bk} {E : Ev} (h : ¬ EvOk B E) : doP B E = (1, zeroBk) := by unfold doP; rw [if_pos h]
theorem doP_write {B : Bk} {E : Ev} (h : EvOk B E) (o : E.op = 1) : doP B E = doWrite B (eOrd E) := by unfold doP; rw [if_neg (fun n => n h), if_pos o]
theorem doP_give {B : Bk} {E : Ev} (h : EvOk B E) (o : E.op = 2) : doP B E = doGive B E.of_.toNat := by unfold doP; rw [if_neg (fun n => n h), if_neg (by omega), if_pos o]
theorem doP_repeat {B : Bk} {E : Ev} (h : EvOk B E) (o : E.op = 3) : doP B E = doRepeat B E.of_.toNat E.holder E.text := by unfold doP; rw [if_neg (fun n => n h), if_neg (by omega), if_neg (by omega), if_pos o]
theorem doP_back {B : Bk} {E : Ev} (h : EvOk B E) (o : E.op = 4) : doP B E = doBack B E.of_.toNat E.holder := by unfold doP; rw [if_neg (fun n => n h), if_neg (by omega), if_neg (by omega), if_neg (by omega), if_pos o]
theorem doP_cancel {B : Bk} {E : Ev} (h : EvOk B E) (o : E.op = 5) : doP B E = doCancel B E.of_.toNat := by unfold doP; rw [if_neg (fun n => n h), if_neg (by omega), if_neg (by omega), if_neg (by omega), if_neg (by omega), if_pos o]
theorem doP_lock {B : Bk} {E : Ev} (h : EvOk B E) (o : E.op = 6) : doP B E = doLock B E.of_ := by unfold doP; rw [if_neg (fun n => n h), if_neg (by omega), if_neg (by omega), if_neg (by omega), if_neg (by omega), if_neg (by omega), if_pos o]
theorem doP_unlock {B : Bk} {E : Ev} (h : EvOk B E) (o : E.op = 7) : doP B E = (0, setLock B E.of_.toNat false) := by unfold doP; rw [if_neg (fun n => n h), if_neg (by omega), if_neg (by omega), if_neg (by omega), if_neg (by omega), if_neg (by omega), if_neg (by omega), if_pos o]
theorem doP_occ {B : Bk} {E : Ev} (h : EvOk B E) (o : E.op = 8) : doP B E = (0, setOcc B E.of_.toNat true) := by unfold doP; rw [if_neg (fun n => n h), if_neg (by omega), if_neg (by omega), if_neg (by omega), if_neg (by omega), if_neg (by omega), if_neg (by omega), if_neg (by omega), if_pos o]
theorem doP_free {B : Bk} {E : Ev} (h : EvOk B E) (o : E.op = 9) : doP B E = (0, setOcc B E.of_.toNat false) := by unfold doP; rw [if_neg (fun n => n h), if_neg (by omega), if_neg (by omega), if_neg (by omega), if_neg (by omega), if_neg (by omega), if_neg (by omega), if_neg (by omega), if_neg (by omega)]
end Go.Proofs.YtdlaekjofgbjcaaGreatDoor
