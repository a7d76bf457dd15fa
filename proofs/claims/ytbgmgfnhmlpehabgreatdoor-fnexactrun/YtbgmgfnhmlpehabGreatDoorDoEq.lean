/-
  The contracts of laws.eqDone, markEvent, markDone, heldDone; what an event leaves is small. Mine, by template (wip/gen.py).
-/
import Derived.Test.YtbgmgfnhmlpehabGreatDoorDo
import Derived.Test.YtbgmgfnhmlpehabGreatDoorOwnUp
import Derived.Test.YtbgmgfnhmlpehabGreatDoorEvTo
import Derived.Test.YtbgmgfnhmlpehabGreatDoorEq
import Derived.Test.YtbgmgfnhmlpehabGreatDoorHeld
namespace Go.Proofs.YtbgmgfnhmlpehabGreatDoor
open Go.RowKit

theorem bookAt_shape {w : World} {a b c d : Value} {B : Bk} (h : BookAt w (.agg #[a, b, c, d]) B) : ∃ ao co al cl ac cc, a = .int .i64 B.n ∧ b = .slice ao B.orders.length co ∧ c = .slice al B.locked.length cl ∧ d = .slice ac B.occ.length cc := by
  obtain ⟨ao, co, al, cl, ac, cc, e, -⟩ := h
  simp only [Value.agg.injEq, Array.mk.injEq, List.cons.injEq, and_true] at e
  exact ⟨ao, co, al, cl, ac, cc, e.1, e.2.1, e.2.2.1, e.2.2.2⟩

theorem eqDone_same (n : Int) (a1 b1 c1 d1 a2 b2 c2 d2 : Value) (B : Bk) (w : World) (ho : B.orders.length ≤ 1048576) (hsec : ∀ i, i < B.orders.length → (B.orders.getD i Ord.zero).secs.length ≤ 4294967296) (hl : B.locked.length ≤ 4294967296) (hc : B.occ.length ≤ 4294967296)
    (G1 : BookAt w (.agg #[a1, b1, c1, d1]) B) (G2 : BookAt w (.agg #[a2, b2, c2, d2]) B) :
    Calls Tryz.prog 12 #[.agg #[.int .i64 n, a1, b1, c1, d1], .agg #[.int .i64 n, a2, b2, c2, d2]] w fun e w' => e = .returned (.bool true) ∧ Below w.heap.size w w' := by
  obtain ⟨ao1, co1, al1, cl1, ac1, cc1, rfl, rfl, rfl, rfl⟩ := bookAt_shape G1
  obtain ⟨ao2, co2, al2, cl2, ac2, cc2, rfl, rfl, rfl, rfl⟩ := bookAt_shape G2
  have B2 : Below w.heap.size w ((w.alloc (.cells #[.int .i64 n, .int .i64 B.n, .slice ao1 B.orders.length co1, .slice al1 B.locked.length cl1, .slice ac1 B.occ.length cc1] 35)).alloc (.cells #[.int .i64 n, .int .i64 B.n, .slice ao2 B.orders.length co2, .slice al2 B.locked.length cl2, .slice ac2 B.occ.length cc2] 35)) := below2 _ _ _
  have HG : Hid (BookAt w (.agg #[.int .i64 B.n, .slice ao1 B.orders.length co1, .slice al1 B.locked.length cl1, .slice ac1 B.occ.length cc1]) B ∧ BookAt w (.agg #[.int .i64 B.n, .slice ao2 B.orders.length co2, .slice al2 B.locked.length cl2, .slice ac2 B.occ.length cc2]) B) := ⟨G1, G2⟩
  clear G1 G2
  go_enter Tryz.func12, Tryz.ntmps12
  go_wp2_with fail
  refine (eqBook_same _ _ B _ ho hsec hl hc (HG.out.1.below B2) (HG.out.2.below B2)).mono ?_
  rintro e w1 ⟨rfl, hb⟩
  have bw : Below w.heap.size w w1 := B2.trans (hb.mono B2.size)
  clear hb B2
  go_wp2
  go_ret
  exact ⟨rfl, bw⟩

theorem markEvent_any (v : Value) (E : Ev) (lo g : Nat) (k : Int) (w : World) (h0 : 0 ≤ k) (h1 : k + E.secs.length ≤ 4611686018427387904) (h : OwnEv w lo v E g) :
    Calls Tryz.prog 16 #[v, .int .i64 k] w fun e w' => e = .returned (.int .i64 (k + E.secs.length)) ∧ Fr (fun b => b = g) w w' := by
  obtain ⟨rfl, hl, hp⟩ := h
  have B1 := below1 w (.cells #[.int .i64 E.op, .int .i64 E.of_, .string E.holder, .int .i64 E.kind, .slice (some ⟨g, 0, none⟩) E.secs.length E.secs.length, .string E.text] 38)
  go_enter Tryz.func16, Tryz.ntmps16
  go_wp2_with fail
  refine (markIntS_any (some ⟨g, 0, none⟩) E.secs.length E.secs.length g (iV E.secs) k _ h0 h1 (fun _ => rfl) (fun _ => hp.of_block (B1.block _ hp.lt))).mono ?_
  rintro e w1 ⟨rfl, -, hf⟩
  have HF : Hid (Fr (fun b => b = g) w w1) := (Fr.of_below B1).trans (hf.mono (fun i hi => hi.2))
  clear hf B1 hp
  go_wp2
  go_ret
  exact ⟨rfl, HF.out⟩

theorem markDone_any (n : Int) (a b c d : Value) (B : Bk) (K : Blk) (lo k : Nat) (w : World) (h0 : 0 < k) (hk : bEnd B k ≤ 2305843009213693952) (hn : B.orders.length ≤ 1048576) (h : OwnBook w lo (.agg #[a, b, c, d]) B K) :
    Calls Tryz.prog 17 #[.agg #[.int .i64 n, a, b, c, d], .int .i64 k] w fun e w' => e = .returned (.int .i64 (bEnd B k)) ∧ OwnBook w' lo (.agg #[a, b, c, d]) (mBk B k) K ∧ Fr (bookBlocks B K) w w' := by
  obtain ⟨ao1, co1, al1, cl1, ac1, cc1, rfl, rfl, rfl, rfl⟩ := bookAt_shape h.bookAt
  have B1 := below1 w (.cells #[.int .i64 n, .int .i64 B.n, .slice ao1 B.orders.length co1, .slice al1 B.locked.length cl1, .slice ac1 B.occ.length cc1] 35)
  have HH : Hid (OwnBook w lo (.agg #[.int .i64 B.n, .slice ao1 B.orders.length co1, .slice al1 B.locked.length cl1, .slice ac1 B.occ.length cc1]) B K) := h
  clear h
  go_enter Tryz.func17, Tryz.ntmps17
  go_wp2_with fail
  refine (markBook_any _ B K lo k _ h0 hk hn (HH.out.below B1)).mono ?_
  rintro e w1 ⟨rfl, h1, hf⟩
  have HF : Hid (OwnBook w1 lo (.agg #[.int .i64 B.n, .slice ao1 B.orders.length co1, .slice al1 B.locked.length cl1, .slice ac1 B.occ.length cc1]) (mBk B k) K ∧ Fr (bookBlocks B K) w w1) := ⟨h1, (Fr.of_below B1).trans hf⟩
  clear hf B1 h1
  go_wp2
  go_ret
  exact ⟨rfl, HF.out.1, HF.out.2⟩

theorem heldDone_any (n : Int) (a b c d : Value) (B : Bk) (k : Nat) (w : World) (h0 : 0 < k) (hk : bEnd B k ≤ 2305843009213693952) (hn : B.orders.length ≤ 1048576) (h : BookAt w (.agg #[a, b, c, d]) (mBk B k)) :
    Calls Tryz.prog 18 #[.agg #[.int .i64 n, a, b, c, d], .int .i64 k] w fun e w' => e = .returned (.int .i64 (bEnd B k)) ∧ Below w.heap.size w w' := by
  have G0 := h
  obtain ⟨ao1, co1, al1, cl1, ac1, cc1, rfl, rfl, rfl, rfl⟩ := bookAt_shape h
  have B1 := below1 w (.cells #[.int .i64 n, .int .i64 (mBk B k).n, .slice ao1 (mBk B k).orders.length co1, .slice al1 (mBk B k).locked.length cl1, .slice ac1 (mBk B k).occ.length cc1] 35)
  have HH : Hid (BookAt w (.agg #[.int .i64 (mBk B k).n, .slice ao1 (mBk B k).orders.length co1, .slice al1 (mBk B k).locked.length cl1, .slice ac1 (mBk B k).occ.length cc1]) (mBk B k)) := G0
  clear h G0
  go_enter Tryz.func18, Tryz.ntmps18
  go_wp2_with fail
  refine (heldBook_any _ B k _ h0 hk hn (HH.out.below B1)).mono ?_
  rintro e w1 ⟨rfl, hb⟩
  have bw : Below w.heap.size w w1 := B1.trans (hb.mono B1.size)
  have nn : ¬ (bEnd B k : Int) < 0 := by omega
  clear hb B1
  go_wp2
  go_ret
  exact ⟨rfl, bw⟩

/-! ### What an event leaves is small -/

structure Tiny (B : Bk) : Prop where
  o : B.orders.length ≤ 201
  s : ∀ i, i < B.orders.length → (bX B i).secs.length ≤ 20
  l : B.locked.length ≤ 60
  c : B.occ.length ≤ 60

theorem tiny_right {B : Bk} (h : Right B) : Tiny B := by
  obtain ⟨⟨h1, h2, h3, h4⟩, h5, _⟩ := h
  have := h1.2
  exact ⟨by omega, fun i hi => (h5 i hi).2.2.1.2.2, by omega, by omega⟩

theorem tiny_set {B : Bk} (h : Tiny B) (i : Nat) (s : Int) (hi : i < B.orders.length) : Tiny (setState B i s) := by
  refine ⟨by rw [set_len]; exact h.o, fun j hj => ?_, h.l, h.c⟩
  rw [set_len] at hj
  have := set_secs B i s hi j
  unfold bX
  rw [this]
  exact h.s j hj

theorem tiny_doP (B : Bk) (E : Ev) : Tiny (doP B E).2 := by
  by_cases hok : EvOk B E
  case neg => rw [doP_none hok]; exact ⟨by simp [zeroBk], fun i hi => absurd hi (by simp [zeroBk]), by simp [zeroBk], by simp [zeroBk]⟩
  have hT := tiny_right hok.1
  have hin := EvOk.some hok
  unfold In at hin
  have num : ∀ {n : Nat}, In E.of_ 0 ((n : Int) - 1) → E.of_.toNat < n := fun h => by unfold In at h; omega
  rcases (show E.op = 1 ∨ E.op = 2 ∨ E.op = 3 ∨ E.op = 4 ∨ E.op = 5 ∨ E.op = 6 ∨ E.op = 7 ∨ E.op = 8 ∨ E.op = 9 by omega) with o | o | o | o | o | o | o | o | o
  · rw [doP_write hok o]
    unfold doWrite
    split
    · next h200 =>
      refine ⟨by simp [addOrd]; omega, fun i hi => ?_, hT.l, hT.c⟩
      have hl : (addOrd B (eOrd E)).orders.length = B.orders.length + 1 := by simp [addOrd]
      rw [hl] at hi
      by_cases e : i = B.orders.length
      · subst e
        show ((B.orders ++ [eOrd E]).getD B.orders.length Ord.zero).secs.length ≤ 20
        simp only [List.getD_eq_getElem?_getD, List.getElem?_concat_length, Option.getD_some]
        exact (EvOk.at1 hok o).2.2.2.1.2.2
      · have hi' : i < B.orders.length := by omega
        show ((B.orders ++ [eOrd E]).getD i Ord.zero).secs.length ≤ 20
        rw [List.getD_eq_getElem?_getD, List.getElem?_append_left hi', ← List.getD_eq_getElem?_getD]
        exact hT.s i hi'
    · exact hT
  · rw [doP_give hok o]
    have := num (EvOk.at25 hok (Or.inl o)).1
    unfold doGive
    split
    · exact tiny_set hT _ _ this
    · exact hT
  · rw [doP_repeat hok o]
    have := num (EvOk.at3 hok o).1
    unfold doRepeat
    split
    · exact hT
    · split
      · exact hT
      · split
        · exact tiny_set hT _ _ this
        · exact tiny_set hT _ _ this
  · rw [doP_back hok o]
    have := num (EvOk.at4 hok o).1
    unfold doBack
    split
    · exact hT
    · split
      · exact hT
      · exact tiny_set hT _ _ this
  · rw [doP_cancel hok o]
    have := num (EvOk.at25 hok (Or.inr o)).1
    unfold doCancel
    split
    · exact hT
    · exact tiny_set hT _ _ this
  · rw [doP_lock hok o]
    unfold doLock
    split
    · exact hT
    · exact ⟨hT.o, hT.s, by simp [setLock]; exact hT.l, hT.c⟩
  · rw [doP_unlock hok o]; exact ⟨hT.o, hT.s, by simp [setLock]; exact hT.l, hT.c⟩
  · rw [doP_occ hok o]; exact ⟨hT.o, hT.s, hT.l, by simp [setOcc]; exact hT.c⟩
  · rw [doP_free hok o]; exact ⟨hT.o, hT.s, hT.l, by simp [setOcc]; exact hT.c⟩

theorem kAt_tiny (X : Nat → Ord) (k n : Nat) (h : ∀ i, i < n → (X i).secs.length ≤ 20) : kAt X k n ≤ k + 23 * n := by
  induction n with
  | zero => simp [kAt]
  | succ n ih =>
    have h1 := ih (fun i hi => h i (by omega))
    have h2 := h n (by omega)
    simp only [kAt]
    omega

theorem bEnd_tiny {B : Bk} (h : Tiny B) : bEnd B 1 ≤ 2305843009213693952 := by
  have h1 := kAt_tiny (bX B) 1 B.orders.length h.s
  have h2 := h.o
  have h3 := h.l
  have h4 := h.c
  unfold bEnd bK
  omega

end Go.Proofs.YtbgmgfnhmlpehabGreatDoor
