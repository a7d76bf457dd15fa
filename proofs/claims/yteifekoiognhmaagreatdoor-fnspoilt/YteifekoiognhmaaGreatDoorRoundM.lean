/-
  The round of an order, as plain notions: what each event does. Mine, by template (wip/gen.py).
-/
import Derived.Test.YteifekoiognhmaaGreatDoorEvZ
namespace Go.Proofs.YteifekoiognhmaaGreatDoor
open Go.RowKit

def annB : ByteArray := ⟨#[97, 110, 110]⟩
def bobB : ByteArray := ⟨#[98, 111, 98]⟩
def rdOrd (L : List Int) (st : Int) : Ord := ⟨annB, 1, L, st⟩
/-- No order yet. -/
def rd0 (n : Nat) (occ : List Bool) : Bk := ⟨(n : Int), [], List.replicate n false, occ⟩
/-- The one order, in this state. -/
def rd1 (n : Nat) (occ : List Bool) (L : List Int) (st : Int) : Bk := ⟨(n : Int), [rdOrd L st], List.replicate n false, occ⟩

structure Rd (n : Nat) (occ : List Bool) : Prop where
  n1 : 1 ≤ n
  n2 : n ≤ 20
  o : occ.length = n

/-- The sections of the order. -/
def RdL (n : Nat) (L : List Int) : Prop := ListOk L.length (fun i => L.getD i 0) (n : Int)

theorem name_ann : NameOk annB := by
  refine ⟨fun i hi => ?_, by decide, by decide⟩
  have h3 : annB.size = 3 := rfl
  rcases (show i = 0 ∨ i = 1 ∨ i = 2 by omega) with rfl | rfl | rfl <;> decide
theorem name_bob : NameOk bobB := by
  refine ⟨fun i hi => ?_, by decide, by decide⟩
  have h3 : bobB.size = 3 := rfl
  rcases (show i = 0 ∨ i = 1 ∨ i = 2 by omega) with rfl | rfl | rfl <;> decide

theorem rd0_right {n : Nat} {occ : List Bool} (h : Rd n occ) : Right (rd0 n occ) := by
  refine ⟨⟨⟨?_, ?_⟩, ?_, ?_, ?_⟩, fun i hi => absurd hi (by simp [rd0]), fun i hi => absurd hi (by simp [rd0]), fun i hi => absurd hi (by simp [rd0])⟩
  · show (1 : Int) ≤ (n : Int)
    have := h.n1
    omega
  · show (n : Int) ≤ 60
    have := h.n2
    omega
  · show ((List.replicate n false).length : Int) = (n : Int)
    simp
  · show (occ.length : Int) = (n : Int)
    rw [h.o]
  · show ([] : List Ord).length ≤ 200
    simp

theorem rd1_bX (n : Nat) (occ : List Bool) (L : List Int) (st : Int) : bX (rd1 n occ L st) 0 = rdOrd L st := rfl
theorem rd1_len (n : Nat) (occ : List Bool) (L : List Int) (st : Int) : (rd1 n occ L st).orders.length = 1 := rfl

theorem no_lock (n k : Nat) : (List.replicate n false).getD k false = false := by
  rw [List.getD_eq_getElem?_getD]
  by_cases h : k < n
  · simp [h]
  · simp [h]

theorem rd1_right {n : Nat} {occ : List Bool} {L : List Int} {st : Int} (h : Rd n occ) (hL : RdL n L) (hs : In st 1 5) : Right (rd1 n occ L st) := by
  refine ⟨⟨⟨?_, ?_⟩, ?_, ?_, ?_⟩, fun i hi => ?_, fun i hi j hj => ?_, fun i hi q => ?_⟩
  · show (1 : Int) ≤ (n : Int)
    have := h.n1
    omega
  · show (n : Int) ≤ 60
    have := h.n2
    omega
  · show ((List.replicate n false).length : Int) = (n : Int)
    simp
  · show (occ.length : Int) = (n : Int)
    rw [h.o]
  · show ([rdOrd L st] : List Ord).length ≤ 200
    simp
  · rw [rd1_len] at hi
    obtain rfl : i = 0 := by omega
    exact ⟨name_ann, (show In (1 : Int) 1 2 from ⟨by decide, by decide⟩), hL, hs⟩
  · rw [rd1_len] at hi
    omega
  · rw [rd1_len] at hi
    obtain rfl : i = 0 := by omega
    obtain ⟨_, k, _, hk⟩ := q
    have : (List.replicate n false).getD (sV (bX (rd1 n occ L st) 0) k).toNat false = true := hk
    rw [no_lock] at this
    cases this

def evOcc (s : Nat) : Ev := ⟨8, (s : Int), ByteArray.empty, 0, [], ByteArray.empty⟩
def evWrite (L : List Int) : Ev := ⟨1, 0, annB, 1, L, ByteArray.empty⟩
def evGive : Ev := ⟨2, 0, ByteArray.empty, 0, [], ByteArray.empty⟩
def evRep (h t : ByteArray) : Ev := ⟨3, 0, h, 0, [], t⟩
def evBack : Ev := ⟨4, 0, annB, 0, [], ByteArray.empty⟩

theorem do_occ {n : Nat} {occ : List Bool} (h : Rd n occ) {s : Nat} (hs : s < n) : doP (rd0 n occ) (evOcc s) = (0, rd0 n (occ.set s true)) := by
  have ok : EvOk (rd0 n occ) (evOcc s) := ⟨rd0_right h, Or.inr (Or.inr (Or.inr (Or.inr ⟨(show In (8 : Int) 6 9 from ⟨by decide, by decide⟩), (show In (s : Int) 0 ((n : Int) - 1) from ⟨by omega, by omega⟩), rfl, rfl, rfl, rfl⟩)))⟩
  rw [doP_occ ok rfl]
  rfl

theorem rd_set {n : Nat} {occ : List Bool} (h : Rd n occ) (s : Nat) : Rd n (occ.set s true) := ⟨h.n1, h.n2, by rw [List.length_set]; exact h.o⟩

theorem do_write {n : Nat} {occ : List Bool} {L : List Int} (h : Rd n occ) (hL : RdL n L) : doP (rd0 n occ) (evWrite L) = (0, rd1 n occ L 1) := by
  have ok : EvOk (rd0 n occ) (evWrite L) := ⟨rd0_right h, Or.inl ⟨rfl, rfl, name_ann, (show In (1 : Int) 1 2 from ⟨by decide, by decide⟩), hL, rfl⟩⟩
  rw [doP_write ok rfl]
  unfold doWrite
  rw [if_pos (by simp [rd0])]
  rfl

theorem do_give {n : Nat} {occ : List Bool} {L : List Int} (h : Rd n occ) (hL : RdL n L) : doP (rd1 n occ L 1) evGive = (0, rd1 n occ L 2) := by
  have ok : EvOk (rd1 n occ L 1) evGive := ⟨rd1_right h hL ⟨by decide, by decide⟩, Or.inr (Or.inl ⟨Or.inl rfl, (show In (0 : Int) 0 (((1 : Nat) : Int) - 1) from ⟨by decide, by decide⟩), rfl, rfl, rfl, rfl⟩)⟩
  rw [doP_give ok rfl]
  have g : giveC (rd1 n occ L 1) 0 = 0 := by
    unfold giveC
    have e1 : ¬ (bX (rd1 n occ L 1) 0).state ≠ 1 := fun q => q rfl
    have e2 : ¬ Taken (rd1 n occ L 1) 0 := fun ⟨j, hj, ho, _⟩ => by
      rw [rd1_len] at hj
      obtain rfl : j = 0 := by omega
      rcases ho with q | q
      · exact absurd (show (1 : Int) = 2 from q) (by decide)
      · exact absurd (show (1 : Int) = 3 from q) (by decide)
    have e3 : ¬ Marked (rd1 n occ L 1).locked (bX (rd1 n occ L 1) 0) := fun ⟨q, _, hq⟩ => by
      have : (List.replicate n false).getD (sV (bX (rd1 n occ L 1) 0) q).toNat false = true := hq
      rw [no_lock] at this
      cases this
    have e4 : ¬ ((bX (rd1 n occ L 1) 0).kind = 2 ∧ Marked (rd1 n occ L 1).occ (bX (rd1 n occ L 1) 0)) := fun q => absurd (show (1 : Int) = 2 from q.1) (by decide)
    rw [if_neg e1, if_neg e2, if_neg e3, if_neg e4]
  show doGive (rd1 n occ L 1) 0 = _
  unfold doGive
  rw [if_pos g]
  rfl

theorem rep_ok {n : Nat} {occ : List Bool} {L : List Int} {h t : ByteArray} (hr : Rd n occ) (hL : RdL n L) (hh : NameOk h) (ht : t.size ≤ 200) : EvOk (rd1 n occ L 2) (evRep h t) :=
  ⟨rd1_right hr hL ⟨by decide, by decide⟩, Or.inr (Or.inr (Or.inl ⟨rfl, (show In (0 : Int) 0 (((1 : Nat) : Int) - 1) from ⟨by decide, by decide⟩), hh, rfl, rfl, ht⟩))⟩

theorem do_rep {n : Nat} {occ : List Bool} {L : List Int} {t : ByteArray} (hr : Rd n occ) (hL : RdL n L) (ht : t.size ≤ 200) (hT : OrdT (rd1 n occ L 2) 0 (bl t)) : doP (rd1 n occ L 2) (evRep annB t) = (0, rd1 n occ L 3) := by
  rw [doP_repeat (rep_ok hr hL name_ann ht) rfl]
  show doRepeat (rd1 n occ L 2) 0 annB t = _
  unfold doRepeat
  rw [if_neg (fun q => q rfl), if_neg (fun q => q rfl), if_neg (fun q => q hT)]
  rfl

theorem do_rep_no {n : Nat} {occ : List Bool} {L : List Int} {t : ByteArray} (hr : Rd n occ) (hL : RdL n L) (ht : t.size ≤ 200) (hT : ¬ OrdT (rd1 n occ L 2) 0 (bl t)) : doP (rd1 n occ L 2) (evRep annB t) = (4, rd1 n occ L 5) := by
  rw [doP_repeat (rep_ok hr hL name_ann ht) rfl]
  show doRepeat (rd1 n occ L 2) 0 annB t = _
  unfold doRepeat
  rw [if_neg (fun q => q rfl), if_neg (fun q => q rfl), if_pos hT]
  rfl

theorem do_rep_bob {n : Nat} {occ : List Bool} {L : List Int} {t : ByteArray} (hr : Rd n occ) (hL : RdL n L) (ht : t.size ≤ 200) : doP (rd1 n occ L 2) (evRep bobB t) = (3, rd1 n occ L 2) := by
  rw [doP_repeat (rep_ok hr hL name_bob ht) rfl]
  show doRepeat (rd1 n occ L 2) 0 bobB t = _
  unfold doRepeat
  rw [if_neg (fun q => q rfl), if_pos (show (bX (rd1 n occ L 2) 0).holder ≠ bobB from (by decide : annB ≠ bobB))]

theorem do_back {n : Nat} {occ : List Bool} {L : List Int} (hr : Rd n occ) (hL : RdL n L) : doP (rd1 n occ L 3) evBack = (0, rd1 n occ L 4) := by
  have ok : EvOk (rd1 n occ L 3) evBack := ⟨rd1_right hr hL ⟨by decide, by decide⟩, Or.inr (Or.inr (Or.inr (Or.inl ⟨rfl, (show In (0 : Int) 0 (((1 : Nat) : Int) - 1) from ⟨by decide, by decide⟩), name_ann, rfl, rfl, rfl⟩)))⟩
  rw [doP_back ok rfl]
  show doBack (rd1 n occ L 3) 0 annB = _
  unfold doBack
  rw [if_neg (fun q => q rfl), if_neg (fun q => q rfl)]
  rfl

/-! ### The text's length -/

theorem secT_len (x : Ord) (lim : Int) (hl : lim ≤ 100) (h : ∀ i, i < x.secs.length → 0 ≤ sV x i ∧ sV x i ≤ lim - 1) (k : Nat) (hk : k ≤ x.secs.length) : (secT x k).length ≤ 4 * k := by
  induction k with
  | zero => simp [secT]
  | succ k ih =>
    have h1 := ih (by omega)
    have h2 := h k (by omega)
    have h3 := dec_len (sV x k).toNat (by omega)
    simp only [secT, List.length_append, List.length_cons]
    omega

theorem text_len {n : Nat} {occ : List Bool} {L : List Int} {l : List UInt8} (hr : Rd n occ) (hL : RdL n L) (h : OrdT (rd1 n occ L 2) 0 l) : 1 ≤ l.length ∧ l.length ≤ 200 := by
  have hs := secT_len (rdOrd L 2) n (by have := hr.n2; omega) (fun i hi => ⟨(hL.1 i hi).1, (hL.1 i hi).2.1⟩) L.length (Nat.le_refl _)
  have h20 : L.length ≤ 20 := hL.2.2
  have hb : 1 ≤ (baseT 0 (rdOrd L 2)).length ∧ (baseT 0 (rdOrd L 2)).length ≤ 22 := by
    unfold baseT headT
    rw [if_pos (show (rdOrd L 2).kind = 1 from rfl)]
    have h1 := dec_len 0 (by omega)
    have h2 : orderT.length = 6 := rfl
    have h3 : toT.length = 4 := rfl
    have h4 : (bl (rdOrd L 2).holder).length = 3 := rfl
    have h5 : passT.length = 6 := rfl
    simp only [List.length_append]
    omega
  have hg : sightT.length = 9 := rfl
  rcases h with ⟨_, _, e⟩ | ⟨_, e⟩
  · have e' : l = baseT 0 (rdOrd L 2) ++ secT (rdOrd L 2) L.length ++ sightT := e
    rw [e']
    simp only [List.length_append]
    omega
  · have e' : l = baseT 0 (rdOrd L 2) ++ secT (rdOrd L 2) L.length := e
    rw [e']
    simp only [List.length_append]
    omega

end Go.Proofs.YteifekoiognhmaaGreatDoor
