import Derived.Test.YteifekoiognhmaaGreatDoorDraw3
import Derived.Test.YteifekoiognhmaaGreatDoorRunZ
import Derived.Test.YteifekoiognhmaaGreatDoorKeepZ
/-
  What spec.Drawn answers. Mine, by template (wip/gen.py).
-/
namespace Go.Proofs.YteifekoiognhmaaGreatDoor
open Go.RowKit

/-- What Drawn answers: a number, and few small events in new memory. -/
def RetDr (e : Ending) (w w' : World) : Prop :=
  ∃ (m : Int) (ad : Option Addr) (k c : Nat) (X : Nat → Ev), e = .returned (.tuple #[.int .i64 m, .slice ad k c]) ∧ 1 ≤ m ∧ m ≤ 9 ∧ k ≤ 60 ∧ EventsAt w' ad k X ∧ (∀ i, i < k → SmallO (X i)) ∧ Below w.heap.size w w'

theorem drawn_cur {w : World} {ad : Option Addr} {n c : Nat} {V : Nat → UInt8} (G : BytesAt w ad n V) : Cur (w.alloc (.cells #[.slice ad n c, .int .i64 0, .int .u64 0] 53)) w.heap.size ad n c V 0 := by
  refine ⟨⟨0, Deep.blk_alloc_new _ _⟩, ?_⟩
  by_cases h0 : n = 0
  · subst h0
    exact ⟨w.heap.size + 1, 0, fun h => absurd h (by omega), by omega, fun i hi => absurd hi (by omega)⟩
  obtain ⟨b, o, h1, h2⟩ := G
  have hb := World.block_lt_of_cell? _ _ (h2 0 (by omega))
  exact ⟨b, o, h1, by have : b < w.heap.size := hb; omega, fun i hi => ((below1 w _).cell (p := ⟨b, o + i, none⟩) hb).trans (h2 i hi)⟩

set_option maxHeartbeats 2000000 in
theorem drawn_any (ad : Option Addr) (n c : Nat) (V : Nat → UInt8) (w : World) (hn : n ≤ 1048576) (G : BytesAt w ad n V) :
    Calls Tryz.prog 6 #[.slice ad n c] w fun e w' => RetDr e w w' := by
  have B1 := below1 w (.cells #[.slice ad n c, .int .i64 0, .int .u64 0] 53)
  have HC : Hid (Cur (w.alloc (.cells #[.slice ad n c, .int .i64 0, .int .u64 0] 53)) w.heap.size ad n c V 0) := drawn_cur G
  clear G
  go_enter Tryz.func6, Tryz.ntmps6
  go_wp2_with fail
  refine (show Calls Tryz.prog 20 #[.pointer (some ⟨w.heap.size, 0, none⟩), .int .i64 60] (w.alloc (.cells #[.slice ad n c, .int .i64 0, .int .u64 0] 53)) _ from l4run_any w.heap.size ad n c V 0 60 _ (by omega) hn (by omega) HC.out).mono ?_
  rintro e w1 ⟨m, u, v, k, X, sa, sc, B, K, rfl, hm1, hm9, hk, hrow, hsm, hown, hdr, hcur, hfr⟩
  obtain ⟨adU, cU, rfl, hev⟩ := hrow.done
  obtain ⟨ao, co, al, cl, ac, cc, rfl, -⟩ := hown.shape
  have HE : Hid (EventsAt w1 adU k X ∧ (∀ i, i < k → SmallO (X i)) ∧ Below w.heap.size w w1) := ⟨hev, hsm, B1.trans (hfr.below (by simp) (fun x e => by omega))⟩
  clear hrow hown hdr hcur hfr hev hsm B1
  go_wp2
  refine bodyPost_ret (v := .tuple #[.int .i64 m, .slice adU k cU]) (by simp [results, Tryz.results6, go_sem]) rfl ?_
  exact ⟨m, adU, k, cU, X, rfl, hm1, hm9, hk, HE.out.1.below (below1 _ _), HE.out.2.1, HE.out.2.2.alloc HE.out.2.2.size _⟩

end Go.Proofs.YteifekoiognhmaaGreatDoor

/-
  What stands when drawn events are run: for the laws that walk over a run. Mine, by template (wip/gen.py).
-/
namespace Go.Proofs.YteifekoiognhmaaGreatDoor
open Go.RowKit

theorem right_begin {m : Int} (h : 1 ≤ m ∧ m ≤ 60) : Right (beginBk m) := by
  unfold beginBk
  rw [if_pos h]
  exact ⟨⟨h, by simp; omega, by simp; omega, by simp⟩, fun i hi => absurd hi (by simp), fun i hi => absurd hi (by simp), fun i hi => absurd hi (by simp)⟩

/-- What a step of a run does to the states. -/
theorem run_state {B : Bk} {X : Nat → Ev} {k j : Nat} (hj : j < (rB B X k).orders.length) : (bX (rB B X (k + 1)) j).state = (bX (rB B X k) j).state ∨ Fits (rB B X k) (X k) j (bX (rB B X (k + 1)) j).state := by
  by_cases h1 : (doP (rB B X k) (X k)).1 = 1
  · have e : rB B X (k + 1) = rB B X k := by simp only [rB]; rw [if_pos h1]
    rw [e]; exact Or.inl rfl
  · have e : rB B X (k + 1) = (doP (rB B X k) (X k)).2 := by simp only [rB]; rw [if_neg h1]
    rw [e]; exact step_state (ok_of_code h1) hj
theorem run_len (B : Bk) (X : Nat → Ev) (k : Nat) : (rB B X k).orders.length ≤ (rB B X (k + 1)).orders.length := by
  by_cases h1 : (doP (rB B X k) (X k)).1 = 1
  · have e : rB B X (k + 1) = rB B X k := by simp only [rB]; rw [if_pos h1]
    rw [e]; exact Nat.le_refl _
  · have e : rB B X (k + 1) = (doP (rB B X k) (X k)).2 := by simp only [rB]; rw [if_neg h1]
    rw [e]; exact len_doP (ok_of_code h1)
theorem run_n {B : Bk} {X : Nat → Ev} (k : Nat) : (rB B X k).n = B.n := by
  induction k with
  | zero => rfl
  | succ k ih =>
    by_cases h1 : (doP (rB B X k) (X k)).1 = 1
    · have e : rB B X (k + 1) = rB B X k := by simp only [rB]; rw [if_pos h1]
      rw [e]; exact ih
    · have e : rB B X (k + 1) = (doP (rB B X k) (X k)).2 := by simp only [rB]; rw [if_neg h1]
      rw [e, n_ok (ok_of_code h1)]; exact ih

/-- The slices of the book ahead of event k. -/
def sAt (s0 : Sl) (sl : Nat → Sl) : Nat → Sl
  | 0 => s0
  | k + 1 => sl k
def bAt (K0 : Blk) (KD : Nat → Blk) : Nat → Blk
  | 0 => K0
  | k + 1 => KD k

structure Ran (w w1 w3 : World) (P : Nat) (adX : Option Addr) (N : Nat) (X : Nat → Ev) (m : Int) (G : Nat) (s0 : Sl) (K0 : Blk) (sl : Nat → Sl) (KD : Nat → Blk) : Prop where
  m1 : 1 ≤ m ∧ m ≤ 9
  n60 : N ≤ 60
  sm : ∀ i, i < N → SmallO (X i)
  ev : EventsAt w1 adX N X
  z1 : w1.heap.size ≤ P
  b13 : Below w1.heap.size w1 w3
  dn : OwnDones w3 (P + 1) N (rC (beginBk m) X) (fun i => rB (beginBk m) X (i + 1)) G sl KD
  bk : OwnBook w3 0 (bookV (beginBk m) s0) (beginBk m) K0
  bl : ∀ x, bookBlocks (beginBk m) K0 x → x < P
  bx : w3.heap[P]? = some (.cells #[.int .i64 (beginBk m).n, .slice s0.ao (beginBk m).orders.length s0.co, .slice s0.al (beginBk m).locked.length s0.cl, .slice s0.ac (beginBk m).occ.length s0.cc] 37 (0, 0))
  bel : Below w.heap.size w w3
  wP : w.heap.size ≤ P

section
variable {w w1 w3 wr : World} {P : Nat} {adX : Option Addr} {N : Nat} {X : Nat → Ev} {m : Int} {G : Nat} {s0 : Sl} {K0 : Blk} {sl : Nat → Sl} {KD : Nat → Blk}
theorem Ran.zP (h : Ran w w1 w3 P adX N X m G s0 K0 sl KD) : P < w3.heap.size := (Array.getElem?_eq_some_iff.1 h.bx).1
theorem Ran.right (h : Ran w w1 w3 P adX N X m G s0 K0 sl KD) (k : Nat) : Right (rB (beginBk m) X k) := right_rB (right_begin ⟨h.m1.1, by have := h.m1.2; omega⟩) X k
theorem Ran.small (_h : Ran w w1 w3 P adX N X m G s0 K0 sl KD) (k : Nat) : (rB (beginBk m) X k).orders.length ≤ 1048576 ∧ ∀ i, i < (rB (beginBk m) X k).orders.length → (bX (rB (beginBk m) X k) i).secs.length ≤ 1048576 ∧ (bX (rB (beginBk m) X k) i).holder.size ≤ 1048576 :=
  small_rB (begin_tiny m).1 (begin_tiny m).2.1 X k
theorem Ran.num (h : Ran w w1 w3 P adX N X m G s0 K0 sl KD) (k : Nat) : (rB (beginBk m) X k).n = m := (run_n k).trans (begin_n ⟨h.m1.1, by have := h.m1.2; omega⟩)
theorem Ran.book0 (h : Ran w w1 w3 P adX N X m G s0 K0 sl KD) {k : Nat} (hk : k ≤ N) : OwnBook w3 0 (bookV (rB (beginBk m) X k) (sAt s0 sl k)) (rB (beginBk m) X k) (bAt K0 KD k) ∧ ∀ x, bookBlocks (rB (beginBk m) X k) (bAt K0 KD k) x → x ≠ P := by
  cases k with
  | zero => exact ⟨h.bk, fun x hx => by have := h.bl x hx; omega⟩
  | succ k => exact ⟨(h.dn.own k (by omega)).mono (Nat.zero_le _), fun x hx => by have := (h.dn.own k (by omega)).blocks_low hx; omega⟩
theorem Ran.book (h : Ran w w1 w3 P adX N X m G s0 K0 sl KD) (hf : Fr (fun x => x = P) w3 wr) {k : Nat} (hk : k ≤ N) : OwnBook wr 0 (bookV (rB (beginBk m) X k) (sAt s0 sl k)) (rB (beginBk m) X k) (bAt K0 KD k) :=
  (h.book0 hk).1.fr hf (fun x hx e => (h.book0 hk).2 x hx e)
theorem Ran.done (h : Ran w w1 w3 P adX N X m G s0 K0 sl KD) (hf : Fr (fun x => x = P) w3 wr) {k : Nat} (hk : k < N) : DoneCells wr G (k * 5) (rC (beginBk m) X k) (rB (beginBk m) X (k + 1)) (sl k) :=
  (h.dn.fr hf (fun x hx e => by have := (h.dn.blocks hx).1; omega)).cells hk
theorem Ran.event (h : Ran w w1 w3 P adX N X m G s0 K0 sl KD) (hf : Fr (fun x => x = P) w3 wr) : EventsAt wr adX N X :=
  h.ev.below (h.b13.trans (hf.below (by have := h.b13.size; omega) (fun x e => by have := h.z1; omega)))
theorem Ran.out (h : Ran w w1 w3 P adX N X m G s0 K0 sl KD) (hf : Fr (fun x => x = P) w3 wr) : Below w.heap.size w wr :=
  h.bel.trans (hf.below h.bel.size (fun x e => by have := h.wP; omega))
end

theorem boxes3 (wo : World) (c1 c2 c3 : Array Value) (t1 t2 t3 : TypeId) : (((wo.alloc (.cells c1 t1)).alloc (.cells c2 t2)).alloc (.cells c3 t3)).heap[wo.heap.size]? = some (.cells c1 t1 (0, 0)) ∧ (((wo.alloc (.cells c1 t1)).alloc (.cells c2 t2)).alloc (.cells c3 t3)).heap[wo.heap.size + 1]? = some (.cells c2 t2 (0, 0)) ∧ (((wo.alloc (.cells c1 t1)).alloc (.cells c2 t2)).alloc (.cells c3 t3)).heap[wo.heap.size + 2]? = some (.cells c3 t3 (0, 0)) ∧ wo.heap.size + 2 < (((wo.alloc (.cells c1 t1)).alloc (.cells c2 t2)).alloc (.cells c3 t3)).heap.size := by
  refine ⟨(Deep.blk_alloc_lt _ _ _ (by simp; omega)).trans ((Deep.blk_alloc_lt _ _ _ (by simp)).trans (Deep.blk_alloc_new _ _)), (Deep.blk_alloc_lt _ _ _ (by simp)).trans ?_, ?_, by simp⟩
  · have := Deep.blk_alloc_new (wo.alloc (.cells c1 t1)) (.cells c2 t2)
    simpa using this
  · have := Deep.blk_alloc_new ((wo.alloc (.cells c1 t1)).alloc (.cells c2 t2)) (.cells c3 t3)
    simpa using this
theorem boxes2 (wo : World) (c1 c2 : Array Value) (t1 t2 : TypeId) : ((wo.alloc (.cells c1 t1)).alloc (.cells c2 t2)).heap[wo.heap.size]? = some (.cells c1 t1 (0, 0)) ∧ ((wo.alloc (.cells c1 t1)).alloc (.cells c2 t2)).heap[wo.heap.size + 1]? = some (.cells c2 t2 (0, 0)) := by
  refine ⟨(Deep.blk_alloc_lt _ _ _ (by simp)).trans (Deep.blk_alloc_new _ _), ?_⟩
  have := Deep.blk_alloc_new (wo.alloc (.cells c1 t1)) (.cells c2 t2)
  simpa using this

end Go.Proofs.YteifekoiognhmaaGreatDoor
