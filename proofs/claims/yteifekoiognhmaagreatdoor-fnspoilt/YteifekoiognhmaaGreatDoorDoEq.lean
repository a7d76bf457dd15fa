/-
  The contracts of laws.eqDone, markEvent, markDone, heldDone; what an event leaves is small. Mine, by template (wip/gen.py).
-/
import Derived.Test.YteifekoiognhmaaGreatDoorEvZ
import Derived.Test.YteifekoiognhmaaGreatDoorOwnUpZ
import Derived.Test.YteifekoiognhmaaGreatDoorEvTo
import Derived.Test.YteifekoiognhmaaGreatDoorBaseZ
import Derived.Test.YteifekoiognhmaaGreatDoorMarkZ
namespace Go.Proofs.YteifekoiognhmaaGreatDoor
open Go.RowKit

theorem bookAt_shape {w : World} {a b c d : Value} {B : Bk} (h : BookAt w (.agg #[a, b, c, d]) B) : ∃ ao co al cl ac cc, a = .int .i64 B.n ∧ b = .slice ao B.orders.length co ∧ c = .slice al B.locked.length cl ∧ d = .slice ac B.occ.length cc := by
  obtain ⟨ao, co, al, cl, ac, cc, e, -⟩ := h
  simp only [Value.agg.injEq, Array.mk.injEq, List.cons.injEq, and_true] at e
  exact ⟨ao, co, al, cl, ac, cc, e.1, e.2.1, e.2.2.1, e.2.2.2⟩

/-! ### What an event leaves is small -/

structure Tiny (B : Bk) : Prop where
  o : B.orders.length ≤ 201
  s : ∀ i, i < B.orders.length → (bX B i).secs.length ≤ 20
  l : B.locked.length ≤ 60
  c : B.occ.length ≤ 60

theorem tiny_right {B : Bk} (h : Right B) : Tiny B := by
  obtain ⟨⟨h1, h2, h3, h4⟩, h5, _⟩ := h
  have := h1.2
  exact ⟨by omega, fun i hi => (h5 i hi).2.2.1.2.2, by omega, by omega⟩

theorem tiny_set {B : Bk} (h : Tiny B) (i : Nat) (s : Int) (hi : i < B.orders.length) : Tiny (setState B i s) := by
  refine ⟨by rw [set_len]; exact h.o, fun j hj => ?_, h.l, h.c⟩
  rw [set_len] at hj
  have := set_secs B i s hi j
  unfold bX
  rw [this]
  exact h.s j hj

theorem tiny_doP (B : Bk) (E : Ev) : Tiny (doP B E).2 := by
  by_cases hok : EvOk B E
  case neg => rw [doP_none hok]; exact ⟨by simp [zeroBk], fun i hi => absurd hi (by simp [zeroBk]), by simp [zeroBk], by simp [zeroBk]⟩
  have hT := tiny_right hok.1
  have hin := EvOk.some hok
  unfold In at hin
  have num : ∀ {n : Nat}, In E.of_ 0 ((n : Int) - 1) → E.of_.toNat < n := fun h => by unfold In at h; omega
  rcases (show E.op = 1 ∨ E.op = 2 ∨ E.op = 3 ∨ E.op = 4 ∨ E.op = 5 ∨ E.op = 6 ∨ E.op = 7 ∨ E.op = 8 ∨ E.op = 9 by omega) with o | o | o | o | o | o | o | o | o
  · rw [doP_write hok o]
    unfold doWrite
    split
    · next h200 =>
      refine ⟨by simp [addOrd]; omega, fun i hi => ?_, hT.l, hT.c⟩
      have hl : (addOrd B (eOrd E)).orders.length = B.orders.length + 1 := by simp [addOrd]
      rw [hl] at hi
      by_cases e : i = B.orders.length
      · subst e
        show ((B.orders ++ [eOrd E]).getD B.orders.length Ord.zero).secs.length ≤ 20
        simp only [List.getD_eq_getElem?_getD, List.getElem?_concat_length, Option.getD_some]
        exact (EvOk.at1 hok o).2.2.2.1.2.2
      · have hi' : i < B.orders.length := by omega
        show ((B.orders ++ [eOrd E]).getD i Ord.zero).secs.length ≤ 20
        rw [List.getD_eq_getElem?_getD, List.getElem?_append_left hi', ← List.getD_eq_getElem?_getD]
        exact hT.s i hi'
    · exact hT
  · rw [doP_give hok o]
    have := num (EvOk.at25 hok (Or.inl o)).1
    unfold doGive
    split
    · exact tiny_set hT _ _ this
    · exact hT
  · rw [doP_repeat hok o]
    have := num (EvOk.at3 hok o).1
    unfold doRepeat
    split
    · exact hT
    · split
      · exact hT
      · split
        · exact tiny_set hT _ _ this
        · exact tiny_set hT _ _ this
  · rw [doP_back hok o]
    have := num (EvOk.at4 hok o).1
    unfold doBack
    split
    · exact hT
    · split
      · exact hT
      · exact tiny_set hT _ _ this
  · rw [doP_cancel hok o]
    have := num (EvOk.at25 hok (Or.inr o)).1
    unfold doCancel
    split
    · exact hT
    · exact tiny_set hT _ _ this
  · rw [doP_lock hok o]
    unfold doLock
    split
    · exact hT
    · exact ⟨hT.o, hT.s, by simp [setLock]; exact hT.l, hT.c⟩
  · rw [doP_unlock hok o]; exact ⟨hT.o, hT.s, by simp [setLock]; exact hT.l, hT.c⟩
  · rw [doP_occ hok o]; exact ⟨hT.o, hT.s, hT.l, by simp [setOcc]; exact hT.c⟩
  · rw [doP_free hok o]; exact ⟨hT.o, hT.s, hT.l, by simp [setOcc]; exact hT.c⟩

theorem kAt_tiny (X : Nat → Ord) (k n : Nat) (h : ∀ i, i < n → (X i).secs.length ≤ 20) : kAt X k n ≤ k + 23 * n := by
  induction n with
  | zero => simp [kAt]
  | succ n ih =>
    have h1 := ih (fun i hi => h i (by omega))
    have h2 := h n (by omega)
    simp only [kAt]
    omega

theorem bEnd_tiny {B : Bk} (h : Tiny B) : bEnd B 1 ≤ 2305843009213693952 := by
  have h1 := kAt_tiny (bX B) 1 B.orders.length h.s
  have h2 := h.o
  have h3 := h.l
  have h4 := h.c
  unfold bEnd bK
  omega

end Go.Proofs.YteifekoiognhmaaGreatDoor
