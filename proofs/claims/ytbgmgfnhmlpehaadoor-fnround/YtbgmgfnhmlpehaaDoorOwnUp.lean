/-
  Books that own their memory: a state set, a flag set, an order more; lists copied by append. Mine, by template (wip/gen.py).
-/
import Derived.Test.YtbgmgfnhmlpehaaDoorFr
import Derived.Test.YtbgmgfnhmlpehaaDoorDo
import Derived.Test.YtbgmgfnhmlpehaaDoorTo
namespace Go.Proofs.YtbgmgfnhmlpehaaDoor
open Go.RowKit

theorem getD_set {α : Type} (l : List α) (i j : Nat) (x d : α) (hi : i < l.length) : (l.set i x).getD j d = if j = i then x else l.getD j d := by
  by_cases e : j = i
  · subst e; simp [hi]
  · rw [if_neg e]
    simp [List.getD_eq_getElem?_getD, Ne.symm e]

theorem OwnOrds.setState {w : World} {lo : Nat} {ad : Option Addr} {n : Nat} {X : Nat → Ord} {G : Nat} {gs : Nat → Nat} {sa : Nat → Option Addr} {sc : Nat → Nat} (h : OwnOrds w lo ad n X G gs sa sc) {i : Nat} (hi : i < n) (s : Int) :
    OwnOrds (w.setCell ⟨G, i * 4 + 3, none⟩ (.int .i64 s)) lo ad n (fun j => if j = i then setSt (X i) s else X j) G gs sa sc := by
  have hs : ∀ j, (if j = i then setSt (X i) s else X j).secs = (X j).secs := fun j => by
    by_cases e : j = i
    · subst e; rw [if_pos rfl]; rfl
    · rw [if_neg e]
  refine ⟨h.head, fun hp => ((h.row hp).set _ _).congr (fun j hj => ?_), h.low, fun j hj hp => ?_, fun j hj hp => ?_, fun j k hj hk hp hp' => ?_⟩
  · show (if j = i * 4 + 3 then Value.int .i64 s else ordCell (X (j / 4)) (sa (j / 4)) (sc (j / 4)) (j % 4)) = ordCell (if j / 4 = i then setSt (X i) s else X (j / 4)) (sa (j / 4)) (sc (j / 4)) (j % 4)
    by_cases e : j / 4 = i
    · rw [if_pos e]
      subst e
      rcases (show j % 4 = 0 ∨ j % 4 = 1 ∨ j % 4 = 2 ∨ j % 4 = 3 by omega) with q | q | q | q
      · rw [if_neg (by omega), q]; rfl
      · rw [if_neg (by omega), q]; rfl
      · rw [if_neg (by omega), q]; rfl
      · rw [if_pos (by omega), q]; rfl
    · rw [if_neg (by omega), if_neg e]
  · simp only [hs] at hp ⊢
    exact ⟨(h.sec j hj hp).1, (h.sec j hj hp).2.setOther (h.slow j hj hp).2 _⟩
  · simp only [hs] at hp
    exact h.slow j hj hp
  · simp only [hs] at hp hp'
    exact h.inj j k hj hk hp hp'

theorem OwnBools.setAt {w : World} {lo : Nat} {ad : Option Addr} {n : Nat} {V : Nat → Bool} {G : Nat} (h : OwnBools w lo ad n V G) (i : Nat) (r : Bool) :
    OwnBools (w.setCell ⟨G, i, none⟩ (.bool r)) lo ad n (fun j => if j = i then r else V j) G :=
  ⟨h.head, fun hp => ((h.row hp).set i _).congr (fun j _ => by by_cases e : j = i <;> simp [e]), h.low⟩

theorem OwnBools.congr {w : World} {lo : Nat} {ad : Option Addr} {n : Nat} {V U : Nat → Bool} {G : Nat} (h : OwnBools w lo ad n V G) (e : ∀ i, i < n → V i = U i) : OwnBools w lo ad n U G :=
  ⟨h.head, fun hp => (h.row hp).congr (fun i hi => by rw [e i hi]), h.low⟩

theorem OwnBools.setOther {w : World} {lo : Nat} {ad : Option Addr} {n : Nat} {V : Nat → Bool} {G : Nat} (h : OwnBools w lo ad n V G) {a : Addr} (ha : 0 < n → G ≠ a.block) (u : Value) : OwnBools (w.setCell a u) lo ad n V G :=
  ⟨h.head, fun hp => (h.row hp).setOther (ha hp) _, h.low⟩

theorem OwnOrds.setOther {w : World} {lo : Nat} {ad : Option Addr} {n : Nat} {X : Nat → Ord} {G : Nat} {gs : Nat → Nat} {sa : Nat → Option Addr} {sc : Nat → Nat} (h : OwnOrds w lo ad n X G gs sa sc) {a : Addr} (ha : ∀ b, ordBlocks n X G gs b → b ≠ a.block) (u : Value) : OwnOrds (w.setCell a u) lo ad n X G gs sa sc :=
  ⟨h.head, fun hp => (h.row hp).setOther (ha _ (Or.inl ⟨hp, rfl⟩)) _, h.low, fun i hi hp => ⟨(h.sec i hi hp).1, (h.sec i hi hp).2.setOther (ha _ (Or.inr ⟨i, hi, hp, rfl⟩)) _⟩, h.slow, h.inj⟩

theorem OwnBook.setOther {w : World} {lo : Nat} {v : Value} {B : Bk} {K : Blk} (h : OwnBook w lo v B K) {a : Addr} (ha : ∀ b, bookBlocks B K b → b ≠ a.block) (u : Value) : OwnBook (w.setCell a u) lo v B K := by
  obtain ⟨⟨ao, co, al, cl, ac, cc, e, h1, h2, h3⟩, q1, q2, q3, q4, q5⟩ := h
  exact ⟨⟨ao, co, al, cl, ac, cc, e, h1.setOther (fun b hb => ha b (Or.inl hb)) u, h2.setOther (fun hp => ha _ (Or.inr (Or.inl ⟨hp, rfl⟩))) u, h3.setOther (fun hp => ha _ (Or.inr (Or.inr ⟨hp, rfl⟩))) u⟩, q1, q2, q3, q4, q5⟩

theorem setSt_secs (x : Ord) (s : Int) : (setSt x s).secs = x.secs := rfl

theorem set_secs (B : Bk) (i : Nat) (s : Int) (hi : i < B.orders.length) (j : Nat) : ((setState B i s).orders.getD j Ord.zero).secs = (B.orders.getD j Ord.zero).secs := by
  show ((B.orders.set i (setSt (bX B i) s)).getD j Ord.zero).secs = _
  rw [getD_set _ _ _ _ _ hi]
  by_cases e : j = i
  · subst e; rw [if_pos rfl]; rfl
  · rw [if_neg e]

theorem bX_set (B : Bk) (i : Nat) (s : Int) (hi : i < B.orders.length) (j : Nat) : bX (setState B i s) j = if j = i then setSt (bX B i) s else bX B j := getD_set _ _ _ _ _ hi
theorem set_len (B : Bk) (i : Nat) (s : Int) : (setState B i s).orders.length = B.orders.length := by simp [setState]

theorem OwnBook.setState {w : World} {lo : Nat} {v : Value} {B : Bk} {K : Blk} (h : OwnBook w lo v B K) {i : Nat} (hi : i < B.orders.length) (s : Int) : OwnBook (w.setCell ⟨K.G, i * 4 + 3, none⟩ (.int .i64 s)) lo v (setState B i s) K := by
  obtain ⟨⟨ao, co, al, cl, ac, cc, e, h1, h2, h3⟩, q1, q2, q3, q4, q5⟩ := h
  have hn : 0 < B.orders.length := by omega
  have hl := set_len B i s
  refine ⟨⟨ao, co, al, cl, ac, cc, by rw [hl]; exact e, ?_, h2.setOther (fun hp => q1 hn hp) _, h3.setOther (fun hp => q2 hn hp) _⟩, fun a b => q1 (by rw [hl] at a; exact a) b, fun a b => q2 (by rw [hl] at a; exact a) b, q3, fun a j hj hp => q4 a j (by rw [hl] at hj; exact hj) (by rw [set_secs B i s hi] at hp; exact hp), fun a j hj hp => q5 a j (by rw [hl] at hj; exact hj) (by rw [set_secs B i s hi] at hp; exact hp)⟩
  rw [hl]
  exact (h1.setState hi s).congr (fun j _ => (bX_set B i s hi j).symm)

theorem OwnBook.setLock {w : World} {lo : Nat} {v : Value} {B : Bk} {K : Blk} (h : OwnBook w lo v B K) {i : Nat} (hi : i < B.locked.length) (r : Bool) : OwnBook (w.setCell ⟨K.L, i, none⟩ (.bool r)) lo v (setLock B i r) K := by
  obtain ⟨⟨ao, co, al, cl, ac, cc, e, h1, h2, h3⟩, q1, q2, q3, q4, q5⟩ := h
  have hn : 0 < B.locked.length := by omega
  have hl : (B.locked.set i r).length = B.locked.length := by simp
  refine ⟨⟨ao, co, al, cl, ac, cc, ?_, h1.setOther (fun b hb => ?_) _, ?_, h3.setOther (fun hp => (q3 hn hp).symm) _⟩, fun a b => q1 a (hl ▸ b), q2, fun a b => q3 (hl ▸ a) b, fun a => q4 (hl ▸ a), q5⟩
  · show v = .agg #[_, _, .slice al (B.locked.set i r).length cl, _]
    rw [hl]; exact e
  · rcases hb with ⟨hp, rfl⟩ | ⟨j, hj, hp, rfl⟩
    · exact (q1 hp hn).symm
    · exact q4 hn j hj hp
  · show OwnBools _ lo al (B.locked.set i r).length (fun j => (B.locked.set i r).getD j false) K.L
    rw [hl]
    exact (h2.setAt i r).congr (fun j _ => (getD_set _ _ _ _ _ hi).symm)

theorem OwnBook.setOcc {w : World} {lo : Nat} {v : Value} {B : Bk} {K : Blk} (h : OwnBook w lo v B K) {i : Nat} (hi : i < B.occ.length) (r : Bool) : OwnBook (w.setCell ⟨K.C, i, none⟩ (.bool r)) lo v (setOcc B i r) K := by
  obtain ⟨⟨ao, co, al, cl, ac, cc, e, h1, h2, h3⟩, q1, q2, q3, q4, q5⟩ := h
  have hn : 0 < B.occ.length := by omega
  have hl : (B.occ.set i r).length = B.occ.length := by simp
  refine ⟨⟨ao, co, al, cl, ac, cc, ?_, h1.setOther (fun b hb => ?_) _, h2.setOther (fun hp => q3 hp hn) _, ?_⟩, q1, fun a b => q2 a (hl ▸ b), fun a b => q3 a (hl ▸ b), q4, fun a => q5 (hl ▸ a)⟩
  · show v = .agg #[_, _, _, .slice ac (B.occ.set i r).length cc]
    rw [hl]; exact e
  · rcases hb with ⟨hp, rfl⟩ | ⟨j, hj, hp, rfl⟩
    · exact (q2 hp hn).symm
    · exact q5 hn j hj hp
  · show OwnBools _ lo ac (B.occ.set i r).length (fun j => (B.occ.set i r).getD j false) K.C
    rw [hl]
    exact (h3.setAt i r).congr (fun j _ => (getD_set _ _ _ _ _ hi).symm)

end Go.Proofs.YtbgmgfnhmlpehaaDoor
