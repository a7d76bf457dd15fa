/-
  The contracts of impl.cancel, giveBack, lock. Mine, by template (wip/gen.py).
-/
import Derived.Test.YteifekoiognhmaaGreatDoorErr
import Derived.Test.YteifekoiognhmaaGreatDoorSCopy
namespace Go.Proofs.YteifekoiognhmaaGreatDoor
open Go.RowKit

def ErrOk (o : Option Nat) : Prop := o = none ∨ o = some 0 ∨ o = some 1 ∨ o = some 2 ∨ o = some 3 ∨ o = some 4 ∨ o = some 5 ∨ o = some 6 ∨ o = some 7

/-- How an event ends that is done in a book of its own. -/
def RetX (A : Nat → Addr) (e : Ending) (w w' : World) (lo : Nat) (v : Value) (B : Bk) (K : Blk) (r : Int × Bk) : Prop :=
  ∃ o, e = .returned (errO A o) ∧ ErrOk o ∧ codeN o = r.1 ∧ OwnBook w' lo v r.2 K ∧ Fr (bookBlocks B K) w w'

theorem ord_facts {w : World} {lo : Nat} {v : Value} {B : Bk} {K : Blk} (h : OwnBook w lo v B K) {i : Nat} (hi : i < B.orders.length) :
    OrdAt w K.G (i * 4) (bX B i) (K.sa i) (K.sc i) ∧ (∀ j, w.frozen? ⟨K.G, j, none⟩ = false) ∧ bookBlocks B K K.G := by
  obtain ⟨ao, co, al, cl, ac, cc, _, h1, _, _⟩ := h.shape
  exact ⟨h1.ordAt hi, fun j => (h1.row (by omega)).frozen j, Or.inl (Or.inl ⟨by omega, rfl⟩)⟩

theorem strEq_t {a b : ByteArray} (h : a = b) : (a.toList == b.toList) = true := by subst h; exact beq_self_eq_true _
theorem strEq_f {a b : ByteArray} (h : ¬ a = b) : (a.toList == b.toList) = false := by
  rw [beq_eq_false_iff_ne]
  intro e
  rw [ByteArray.toList_eq, ByteArray.toList_eq] at e
  exact h (ByteArray.ext (Array.toList_inj.1 e))

theorem wf_nat (m : Nat) (h : m < 1048576) : (Lit.int .i64 (m : Int)).wf = true := WalkArith.wf_i64 (by omega)

theorem fr_set {S : Nat → Prop} {w : World} (b o : Nat) (hb : S b) (u : Value) : Fr S w (w.setCell ⟨b, o, none⟩ u) := (Fr.refl S w).setCell hb u

theorem cancel_any (A : Nat → Addr) (v : Value) (B : Bk) (K : Blk) (lo i : Nat) (w : World) (hE : Errs w A) (h : OwnBook w lo v B K) (hi : i < B.orders.length) :
    Calls Tryz.prog 75 #[.pointer (some ⟨K.G, i * 4, none⟩)] w fun e w' => RetX A e w w' lo v B K (doCancel B i) := by
  obtain ⟨⟨x0, x1, x2, x3, x4⟩, hf, hG⟩ := ord_facts h hi
  have f3 := hf (i * 4 + 3)
  have v2 : w.cell? ⟨2, 0, none⟩ = some (errV A 2) := hE.v 2 (by omega)
  have HH : Hid (OwnBook w lo v B K ∧ bookBlocks B K K.G) := ⟨h, hG⟩
  clear h hE x4 hf hG x0 x1 x2
  by_cases s1 : (bX B i).state = 1
  · have t1 : ((bX B i).state != 1) = false := by simp [s1]
    have HS : Hid ((bX B i).state = 1) := s1
    clear s1
    go_enter Tryz.func75, Tryz.ntmps75
    go_wp2
    go_ret
    refine ⟨none, rfl, Or.inl rfl, ?_⟩
    unfold doCancel
    rw [if_neg (fun q => q.1 HS.out)]
    exact ⟨rfl, HH.out.1.setState hi 5, fr_set _ _ HH.out.2 _⟩
  · have t1 : ((bX B i).state != 1) = true := by simpa using s1
    by_cases s2 : (bX B i).state = 2
    · have t2 : ((bX B i).state != 2) = false := by simp [s2]
      have HS : Hid ((bX B i).state = 2) := s2
      clear s1 s2
      go_enter Tryz.func75, Tryz.ntmps75
      go_wp2
      go_ret
      refine ⟨none, rfl, Or.inl rfl, ?_⟩
      unfold doCancel
      rw [if_neg (fun q => q.2 HS.out)]
      exact ⟨rfl, HH.out.1.setState hi 5, fr_set _ _ HH.out.2 _⟩
    · have t2 : ((bX B i).state != 2) = true := by simpa using s2
      have HS : Hid ((bX B i).state ≠ 1 ∧ (bX B i).state ≠ 2) := ⟨s1, s2⟩
      clear s1 s2
      go_enter Tryz.func75, Tryz.ntmps75
      go_wp2
      go_ret
      refine ⟨some 2, rfl, by unfold ErrOk; simp, ?_⟩
      unfold doCancel
      rw [if_pos HS.out]
      exact ⟨rfl, HH.out.1, Fr.refl _ _⟩

theorem giveBack_any (A : Nat → Addr) (v : Value) (B : Bk) (K : Blk) (lo i : Nat) (s : ByteArray) (w : World) (hE : Errs w A) (h : OwnBook w lo v B K) (hi : i < B.orders.length) :
    Calls Tryz.prog 74 #[.pointer (some ⟨K.G, i * 4, none⟩), .string s] w fun e w' => RetX A e w w' lo v B K (doBack B i s) := by
  obtain ⟨⟨x0, x1, x2, x3, x4⟩, hf, hG⟩ := ord_facts h hi
  have f3 := hf (i * 4 + 3)
  have v2 : w.cell? ⟨2, 0, none⟩ = some (errV A 2) := hE.v 2 (by omega)
  have v4 : w.cell? ⟨4, 0, none⟩ = some (errV A 4) := hE.v 4 (by omega)
  have HH : Hid (OwnBook w lo v B K ∧ bookBlocks B K K.G) := ⟨h, hG⟩
  clear h hE x4 hf hG x1 x2
  by_cases s1 : (bX B i).state = 3
  · have t1 : ((bX B i).state != 3) = false := by simp [s1]
    by_cases s2 : (bX B i).holder = s
    · have t2 := strEq_t s2
      have HS : Hid ((bX B i).state = 3 ∧ (bX B i).holder = s) := ⟨s1, s2⟩
      clear s1 s2
      go_enter Tryz.func74, Tryz.ntmps74
      go_wp2
      go_ret
      refine ⟨none, rfl, Or.inl rfl, ?_⟩
      unfold doBack
      rw [if_neg (fun q => q HS.out.1), if_neg (fun q => q HS.out.2)]
      exact ⟨rfl, HH.out.1.setState hi 4, fr_set _ _ HH.out.2 _⟩
    · have t2 := strEq_f s2
      have HS : Hid ((bX B i).state = 3 ∧ (bX B i).holder ≠ s) := ⟨s1, s2⟩
      clear s1 s2
      go_enter Tryz.func74, Tryz.ntmps74
      go_wp2
      go_ret
      refine ⟨some 4, rfl, by unfold ErrOk; simp, ?_⟩
      unfold doBack
      rw [if_neg (fun q => q HS.out.1), if_pos HS.out.2]
      exact ⟨rfl, HH.out.1, Fr.refl _ _⟩
  · have t1 : ((bX B i).state != 3) = true := by simpa using s1
    have HS : Hid ((bX B i).state ≠ 3) := s1
    clear s1
    go_enter Tryz.func74, Tryz.ntmps74
    go_wp2
    go_ret
    refine ⟨some 2, rfl, by unfold ErrOk; simp, ?_⟩
    unfold doBack
    rw [if_pos HS.out]
    exact ⟨rfl, HH.out.1, Fr.refl _ _⟩

/-- The variable that holds the book. -/
def BoxAt (w : World) (p : Nat) (v : Value) : Prop := ∃ a b c d, v = .agg #[a, b, c, d] ∧ w.heap[p]? = some (.cells #[a, b, c, d] 37 (0, 0))

theorem lock_any (A : Nat → Addr) (v : Value) (B : Bk) (K : Blk) (lo p : Nat) (s : Int) (w : World) (hE : Errs w A) (h : OwnBook w lo v B K) (hp : BoxAt w p v) (hR : Right B) (hs : In s 0 (B.n - 1)) (hsm : B.orders.length ≤ 1048576 ∧ ∀ i, i < B.orders.length → (bX B i).secs.length ≤ 1048576 ∧ (bX B i).holder.size ≤ 1048576) :
    Calls Tryz.prog 76 #[.pointer (some ⟨p, 0, none⟩), .int .i64 s] w fun e w' => RetX A e w w' lo v B K (doLock B s) := by
  have hb0 := h.bookAt
  obtain ⟨ao, co, al, cl, ac, cc, rfl, h1, h2, h3⟩ := h.shape
  obtain ⟨a, b, c, d, e, hbx⟩ := hp
  simp only [Value.agg.injEq, Array.mk.injEq, List.cons.injEq, and_true] at e
  obtain ⟨rfl, rfl, rfl, rfl⟩ := e
  obtain ⟨o0, o1, o2, o3⟩ := box_cells hbx
  have hlen : (B.locked.length : Int) = B.n := hR.1.2.1
  obtain ⟨m, rfl⟩ : ∃ m : Nat, s = (m : Int) := ⟨s.toNat, by have := hs.1; omega⟩
  have hm : m < B.locked.length := by have := hs.2; omega
  have hn60 : B.n ≤ 60 := hR.1.1.2
  have hwf : (Lit.int .i64 (m : Int)).wf = true := wf_nat m (by omega)
  have HH : Hid (OwnBook w lo (.agg #[.int .i64 B.n, .slice ao B.orders.length co, .slice al B.locked.length cl, .slice ac B.occ.length cc]) B K ∧ Right B ∧ w.heap[p]? = some (.cells #[.int .i64 B.n, .slice ao B.orders.length co, .slice al B.locked.length cl, .slice ac B.occ.length cc] 37 (0, 0)) ∧ Errs w A) := ⟨h, hR, hbx, hE⟩
  have hal : al = some ⟨K.L, 0, none⟩ := h2.head (by omega)
  clear hbx h h1 h2 h3 hE hR
  subst hal
  go_enter Tryz.func76, Tryz.ntmps76
  go_wp2_with fail
  refine (implWho_any _ B (m : Int) _ hsm.1 hsm.2 hwf hb0).mono ?_
  rintro e w1 ⟨⟨r, rfl, hr⟩, hb⟩
  have H1 := HH.out.1.below hb
  have bx1 := (hb.block _ (Array.getElem?_eq_some_iff.1 HH.out.2.2.1).1).trans HH.out.2.2.1
  obtain ⟨_, _, _, _, _, _, e, _, h2, _⟩ := H1.shape
  simp only [Value.agg.injEq, Array.mk.injEq, List.cons.injEq, Value.slice.injEq, and_true, true_and] at e
  obtain ⟨-, ⟨rfl, rfl⟩, -⟩ := e
  have l1 : w1.cell? ⟨K.L, m, none⟩ = some (.bool (B.locked.getD m false)) := (h2.row (by omega)).cell hm
  have l2 : w1.frozen? ⟨K.L, m, none⟩ = false := (h2.row (by omega)).frozen m
  have E1 := HH.out.2.2.2.below hb
  have v3 : w1.cell? ⟨3, 0, none⟩ = some (errV A 3) := E1.v 3 (by omega)
  obtain ⟨o0, o1, o2, o3⟩ := box_cells bx1
  have HF : Hid (OwnBook w1 lo (.agg #[.int .i64 B.n, .slice ao B.orders.length co, .slice (some ⟨K.L, 0, none⟩) B.locked.length cl, .slice ac B.occ.length cc]) B K ∧ Fr (bookBlocks B K) w w1) := ⟨H1, Fr.of_below hb⟩
  have HW : Hid (WhoIs B (m : Int) r) := hr
  have hm' : (m : Int) < (B.locked.length : Int) := by omega
  clear hb H1 bx1 h2 E1 hr hwf hb0 hsm
  by_cases hr0 : 0 ≤ r
  · have t : decide (0 ≤ r) = true := by simpa using hr0
    clear hr0
    have hr0 : 0 ≤ r := by simpa using t
    have HT : Hid (∃ j, j < B.orders.length ∧ Has (bX B j) (m : Int)) := by
      rcases HW.out with ⟨_, e⟩ | ⟨_, i, q1, q2, q3⟩ | ⟨_, e, _⟩
      · omega
      · exact ⟨i, q1, q3⟩
      · omega
    clear hr0
    go_wp2
    go_ret
    refine ⟨some 3, rfl, by unfold ErrOk; simp, ?_⟩
    unfold doLock
    rw [if_pos HT.out]
    exact ⟨rfl, HF.out.1, HF.out.2⟩
  · have t : decide (0 ≤ r) = false := by simpa using hr0
    have HT : Hid (¬ ∃ j, j < B.orders.length ∧ Has (bX B j) (m : Int)) := by
      rcases HW.out with ⟨q, _⟩ | ⟨_, i, q1, q2, q3⟩ | ⟨_, _, q⟩
      · exact absurd HH.out.2.1 q
      · omega
      · exact fun ⟨j, j1, j2⟩ => q j j1 j2
    clear hr0
    go_wp2
    go_ret
    refine ⟨none, rfl, Or.inl rfl, ?_⟩
    unfold doLock
    rw [if_neg HT.out, Int.toNat_natCast]
    exact ⟨rfl, HF.out.1.setLock hm true, HF.out.2.setCell (p := ⟨K.L, m, none⟩) (Or.inr (Or.inl ⟨by omega, rfl⟩)) _⟩

end Go.Proofs.YteifekoiognhmaaGreatDoor
