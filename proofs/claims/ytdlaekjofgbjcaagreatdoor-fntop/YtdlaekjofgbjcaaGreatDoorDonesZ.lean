import Derived.Test.YtdlaekjofgbjcaaGreatDoorEvZ
import Derived.Test.YtdlaekjofgbjcaaGreatDoorOwnUpZ
import Derived.Test.YtdlaekjofgbjcaaGreatDoorEvTo
import Derived.Test.YtdlaekjofgbjcaaGreatDoorBaseZ
import Derived.Test.YtdlaekjofgbjcaaGreatDoorMarkZ
import Derived.Deep.RegionHeld3
/-
 The contracts of laws.eqDone, markEvent, markDone, heldDone; what an event leaves is small. Mine, by template (wip/gen.py).
-/
namespace Go.Proofs.YtdlaekjofgbjcaaGreatDoor
open Go.RowKit
theorem bookAt_shape {w : World} {a b c d : Value} {B : Bk} (h : BookAt w (.agg #[a, b, c, d]) B) : ∃ ao co al cl ac cc, a = .int .i64 B.n ∧ b = .slice ao B.orders.length co ∧ c = .slice al B.locked.length cl ∧ d = .slice ac B.occ.length cc := by
 obtain ⟨ao, co, al, cl, ac, cc, e, -⟩ := h; simp only [Value.agg.injEq, Array.mk.injEq, List.cons.injEq, and_true] at e; exact ⟨ao, co, al, cl, ac, cc, e.1, e.2.1, e.2.2.1, e.2.2.2⟩
/-! ### What an event leaves is small -/
structure Tiny (B : Bk) : Prop where
 o : B.orders.length ≤ 201
 s : ∀ i, i < B.orders.length → (bX B i).secs.length ≤ 20
 l : B.locked.length ≤ 60
 c : B.occ.length ≤ 60
theorem tiny_right {B : Bk} (h : Right B) : Tiny B := by
 obtain ⟨⟨h1, h2, h3, h4⟩, h5, _⟩ := h; have := h1.2; exact ⟨by omega, fun i hi => (h5 i hi).2.2.1.2.2, by omega, by omega⟩
theorem tiny_set {B : Bk} (h : Tiny B) (i : Nat) (s : Int) (hi : i < B.orders.length) : Tiny (setState B i s) := by
 refine ⟨by rw [set_len]; exact h.o, fun j hj => ?_, h.l, h.c⟩; rw [set_len] at hj; have := set_secs B i s hi j; unfold bX; rw [this]; exact h.s j hj
theorem tiny_doP (B : Bk) (E : Ev) : Tiny (doP B E).2 := by
 by_cases hok : EvOk B E
 case neg => rw [doP_none hok]; exact ⟨by simp [zeroBk], fun i hi => absurd hi (by simp [zeroBk]), by simp [zeroBk], by simp [zeroBk]⟩
 have hT := tiny_right hok.1; have hin := EvOk.some hok; unfold In at hin; have num : ∀ {n : Nat}, In E.of_ 0 ((n : Int) - 1) → E.of_.toNat < n := fun h => by unfold In at h; omega
 rcases (show E.op = 1 ∨ E.op = 2 ∨ E.op = 3 ∨ E.op = 4 ∨ E.op = 5 ∨ E.op = 6 ∨ E.op = 7 ∨ E.op = 8 ∨ E.op = 9 by omega) with o | o | o | o | o | o | o | o | o
 ·
  rw [doP_write hok o]; unfold doWrite; split
  ·
   next h200 =>
   refine ⟨by simp [addOrd]; omega, fun i hi => ?_, hT.l, hT.c⟩; have hl : (addOrd B (eOrd E)).orders.length = B.orders.length + 1 := by simp [addOrd]
   rw [hl] at hi
   by_cases e : i = B.orders.length
   ·
    subst e; show ((B.orders ++ [eOrd E]).getD B.orders.length Ord.zero).secs.length ≤ 20
    simp only [List.getD_eq_getElem?_getD, List.getElem?_concat_length, Option.getD_some]; exact (EvOk.at1 hok o).2.2.2.1.2.2
   ·
    have hi' : i < B.orders.length := by omega
    show ((B.orders ++ [eOrd E]).getD i Ord.zero).secs.length ≤ 20
    rw [List.getD_eq_getElem?_getD, List.getElem?_append_left hi', ← List.getD_eq_getElem?_getD]; exact hT.s i hi'
  · exact hT
 ·
  rw [doP_give hok o]; have := num (EvOk.at25 hok (Or.inl o)).1; unfold doGive; split
  · exact tiny_set hT _ _ this
  · exact hT
 ·
  rw [doP_repeat hok o]; have := num (EvOk.at3 hok o).1; unfold doRepeat; split
  · exact hT
  ·
   split
   · exact hT
   ·
    split
    · exact tiny_set hT _ _ this
    · exact tiny_set hT _ _ this
 ·
  rw [doP_back hok o]; have := num (EvOk.at4 hok o).1; unfold doBack; split
  · exact hT
  ·
   split
   · exact hT
   · exact tiny_set hT _ _ this
 ·
  rw [doP_cancel hok o]; have := num (EvOk.at25 hok (Or.inr o)).1; unfold doCancel; split
  · exact hT
  · exact tiny_set hT _ _ this
 ·
  rw [doP_lock hok o]; unfold doLock; split
  · exact hT
  · exact ⟨hT.o, hT.s, by simp [setLock]; exact hT.l, hT.c⟩
 · rw [doP_unlock hok o]; exact ⟨hT.o, hT.s, by simp [setLock]; exact hT.l, hT.c⟩
 · rw [doP_occ hok o]; exact ⟨hT.o, hT.s, hT.l, by simp [setOcc]; exact hT.c⟩
 · rw [doP_free hok o]; exact ⟨hT.o, hT.s, hT.l, by simp [setOcc]; exact hT.c⟩
end Go.Proofs.YtdlaekjofgbjcaaGreatDoor
/-
 Slices of Dones: what lies in memory; the contract of laws.eqDoneS. Mine, by template (wip/gen.py).
-/
namespace Go.Proofs.YtdlaekjofgbjcaaGreatDoor
open Go.RowKit
structure Sl where
 ao : Option Addr
 co : Nat
 al : Option Addr
 cl : Nat
 ac : Option Addr
 cc : Nat
structure DoneCells (w : World) (b o : Nat) (c : Int) (R : Bk) (s : Sl) : Prop where
 c0 : w.cell? ⟨b, o, none⟩ = some (.int .i64 c)
 c1 : w.cell? ⟨b, o + 1, none⟩ = some (.int .i64 R.n)
 c2 : w.cell? ⟨b, o + 2, none⟩ = some (.slice s.ao R.orders.length s.co)
 c3 : w.cell? ⟨b, o + 3, none⟩ = some (.slice s.al R.locked.length s.cl)
 c4 : w.cell? ⟨b, o + 4, none⟩ = some (.slice s.ac R.occ.length s.cc)
 at_ : BookAt w (.agg #[.int .i64 R.n, .slice s.ao R.orders.length s.co, .slice s.al R.locked.length s.cl, .slice s.ac R.occ.length s.cc]) R
theorem DoneCells.below {w w' : World} {b o : Nat} {c : Int} {R : Bk} {s : Sl} (h : DoneCells w b o c R s) (hb : Below w.heap.size w w') : DoneCells w' b o c R s := by
 have hl : b < w.heap.size := World.block_lt_of_cell? _ _ h.c0; exact ⟨(hb.cell (p := ⟨b, o, none⟩) hl).trans h.c0, (hb.cell (p := ⟨b, o + 1, none⟩) hl).trans h.c1, (hb.cell (p := ⟨b, o + 2, none⟩) hl).trans h.c2, (hb.cell (p := ⟨b, o + 3, none⟩) hl).trans h.c3, (hb.cell (p := ⟨b, o + 4, none⟩) hl).trans h.c4, h.at_.below hb⟩
def DonesAt (w : World) (ad : Option Addr) (n : Nat) (C : Nat → Int) (R : Nat → Bk) : Prop :=
 ∃ b o, (0 < n → ad = some ⟨b, o, none⟩) ∧ ∀ i, i < n → ∃ s, DoneCells w b (o + i * 5) (C i) (R i) s
theorem DonesAt.below {w w' : World} {ad : Option Addr} {n : Nat} {C : Nat → Int} {R : Nat → Bk} (h : DonesAt w ad n C R) (hb : Below w.heap.size w w') : DonesAt w' ad n C R := by
 obtain ⟨b, o, h1, h2⟩ := h; exact ⟨b, o, h1, fun i hi => by obtain ⟨s, h3⟩ := h2 i hi; exact ⟨s, h3.below hb⟩⟩
end Go.Proofs.YtdlaekjofgbjcaaGreatDoor
/-
 A book's three lists marked one behind the other; a slice of Dones that owns its memory. Mine, by template (wip/gen.py).
-/
namespace Go.Proofs.YtdlaekjofgbjcaaGreatDoor
open Go.RowKit
def bookV (R : Bk) (s : Sl) : Value := .agg #[.int .i64 R.n, .slice s.ao R.orders.length s.co, .slice s.al R.locked.length s.cl, .slice s.ac R.occ.length s.cc]
def doneCell (c : Int) (R : Bk) (s : Sl) : Nat → Value
 | 0 => .int .i64 c
 | 1 => .int .i64 R.n
 | 2 => .slice s.ao R.orders.length s.co
 | 3 => .slice s.al R.locked.length s.cl
 | _ => .slice s.ac R.occ.length s.cc
def doneCells (C : Nat → Int) (R : Nat → Bk) (s : Nat → Sl) (j : Nat) : Value := doneCell (C (j / 5)) (R (j / 5)) (s (j / 5)) (j % 5)
structure OwnDones (w : World) (lo n : Nat) (C : Nat → Int) (R : Nat → Bk) (G : Nat) (s : Nat → Sl) (K : Nat → Blk) : Prop where
 row : 0 < n → Pre w G 39 (n * 5) (doneCells C R s)
 low : 0 < n → lo ≤ G
 own : ∀ i, i < n → OwnBook w lo (bookV (R i) (s i)) (R i) (K i)
 dis : ∀ i, i < n → ∀ x, bookBlocks (R i) (K i) x → x ≠ G
 apart : ∀ i j, i < n → j < n → i ≠ j → ∀ x, bookBlocks (R i) (K i) x → ¬ bookBlocks (R j) (K j) x
def doneBlocks (n : Nat) (R : Nat → Bk) (G : Nat) (K : Nat → Blk) (x : Nat) : Prop := (0 < n ∧ x = G) ∨ ∃ i, i < n ∧ bookBlocks (R i) (K i) x
theorem OwnDones.fr {w w' : World} {lo n : Nat} {C : Nat → Int} {R : Nat → Bk} {G : Nat} {s : Nat → Sl} {K : Nat → Blk} (h : OwnDones w lo n C R G s K) {S : Nat → Prop} (hf : Fr S w w') (hs : ∀ x, doneBlocks n R G K x → ¬ S x) : OwnDones w' lo n C R G s K :=
 ⟨fun hp => hf.row (h.row hp) (hs _ (Or.inl ⟨hp, rfl⟩)), h.low, fun i hi => (h.own i hi).fr hf (fun b hb => hs b (Or.inr ⟨i, hi, hb⟩)), h.dis, h.apart⟩
theorem OwnDones.below {w w' : World} {lo n : Nat} {C : Nat → Int} {R : Nat → Bk} {G : Nat} {s : Nat → Sl} {K : Nat → Blk} (h : OwnDones w lo n C R G s K) (hb : Below w.heap.size w w') : OwnDones w' lo n C R G s K :=
 h.fr (S := fun _ => False) (Fr.of_below hb) (fun _ _ h => h)
theorem OwnDones.blocks {w : World} {lo n : Nat} {C : Nat → Int} {R : Nat → Bk} {G : Nat} {s : Nat → Sl} {K : Nat → Blk} (h : OwnDones w lo n C R G s K) {x : Nat} (hx : doneBlocks n R G K x) : lo ≤ x ∧ x < w.heap.size := by
 rcases hx with ⟨hp, rfl⟩ | ⟨i, hi, hb⟩
 · exact ⟨h.low hp, (h.row hp).lt⟩
 · exact ⟨(h.own i hi).blocks_low hb, (h.own i hi).blocks_lt hb⟩
theorem OwnDones.cells {w : World} {lo n : Nat} {C : Nat → Int} {R : Nat → Bk} {G : Nat} {s : Nat → Sl} {K : Nat → Blk} (h : OwnDones w lo n C R G s K) {i : Nat} (hi : i < n) : DoneCells w G (i * 5) (C i) (R i) (s i) := by
 have hr := h.row (by omega); have d : ∀ r, r < 5 → (i * 5 + r) / 5 = i ∧ (i * 5 + r) % 5 = r := fun r hr => by omega
 have c : ∀ r, r < 5 → w.cell? ⟨G, i * 5 + r, none⟩ = some (doneCell (C i) (R i) (s i) r) := fun r hr' => by
  rw [hr.cell (i := i * 5 + r) (by omega)]; unfold doneCells; rw [(d r hr').1, (d r hr').2]
 exact ⟨c 0 (by omega), c 1 (by omega), c 2 (by omega), c 3 (by omega), c 4 (by omega), (h.own i hi).bookAt⟩
theorem OwnDones.at_ {w : World} {lo n : Nat} {C : Nat → Int} {R : Nat → Bk} {G : Nat} {s : Nat → Sl} {K : Nat → Blk} (h : OwnDones w lo n C R G s K) : DonesAt w (some ⟨G, 0, none⟩) n C R :=
 ⟨G, 0, fun _ => rfl, fun i hi => ⟨s i, by rw [Nat.zero_add]; exact h.cells hi⟩⟩
end Go.Proofs.YtdlaekjofgbjcaaGreatDoor
/-
 The contract of laws.markDoneS. Mine, by template (wip/gen.py).
-/
namespace Go.Proofs.YtdlaekjofgbjcaaGreatDoor
open Go.RowKit
def kD (R : Nat → Bk) (k : Nat) : Nat → Nat
 | 0 => k
 | j + 1 => bEnd (R j) (kD R k j + 2)
structure DRowF (f : Nat → Value) (n : Nat) (R : Nat → Bk) (s : Nat → Sl) (k j : Nat) : Prop where
 m0 : ∀ i, i < j → f (i * 5) = .int .i64 (kD R k i)
 m1 : ∀ i, i < j → f (i * 5 + 1) = .int .i64 ((kD R k i : Int) + 1)
 s2 : ∀ i, i < n → f (i * 5 + 2) = .slice (s i).ao (R i).orders.length (s i).co
 s3 : ∀ i, i < n → f (i * 5 + 3) = .slice (s i).al (R i).locked.length (s i).cl
 s4 : ∀ i, i < n → f (i * 5 + 4) = .slice (s i).ac (R i).occ.length (s i).cc
def DRow (w : World) (G n : Nat) (R : Nat → Bk) (s : Nat → Sl) (k j : Nat) : Prop := ∃ f, Pre w G 39 (n * 5) f ∧ DRowF f n R s k j
theorem DRow.of_block {w w' : World} {G n : Nat} {R : Nat → Bk} {s : Nat → Sl} {k j : Nat} (h : DRow w G n R s k j) (e : w'.heap[G]? = w.heap[G]?) : DRow w' G n R s k j := by
 obtain ⟨f, h1, h2⟩ := h; exact ⟨f, h1.of_block e, h2⟩
theorem DRow.lt {w : World} {G n : Nat} {R : Nat → Bk} {s : Nat → Sl} {k j : Nat} (h : DRow w G n R s k j) : G < w.heap.size := by
 obtain ⟨f, h1, h2⟩ := h; exact h1.lt
theorem DRow.cell {w : World} {G n : Nat} {R : Nat → Bk} {s : Nat → Sl} {k j : Nat} (h : DRow w G n R s k j) (i r : Nat) (hi : i < n) (hr : r < 5) : ∃ v, w.cell? ⟨G, i * 5 + r, none⟩ = some v ∧ w.frozen? ⟨G, i * 5 + r, none⟩ = false := by
 obtain ⟨f, h1, h2⟩ := h; exact ⟨_, h1.cell (i := i * 5 + r) (by omega), h1.frozen _⟩
theorem DRow.sl {w : World} {G n : Nat} {R : Nat → Bk} {s : Nat → Sl} {k j : Nat} (h : DRow w G n R s k j) {i : Nat} (hi : i < n) : w.cell? ⟨G, i * 5 + 2, none⟩ = some (.slice (s i).ao (R i).orders.length (s i).co) ∧ w.cell? ⟨G, i * 5 + 3, none⟩ = some (.slice (s i).al (R i).locked.length (s i).cl) ∧ w.cell? ⟨G, i * 5 + 4, none⟩ = some (.slice (s i).ac (R i).occ.length (s i).cc) := by
 obtain ⟨f, h1, h2⟩ := h; exact ⟨by rw [h1.cell (i := i * 5 + 2) (by omega), h2.s2 i hi], by rw [h1.cell (i := i * 5 + 3) (by omega), h2.s3 i hi], by rw [h1.cell (i := i * 5 + 4) (by omega), h2.s4 i hi]⟩
theorem DRow.mk {w : World} {G n : Nat} {R : Nat → Bk} {s : Nat → Sl} {k j : Nat} (h : DRow w G n R s k j) {i : Nat} (hi : i < j) (hn : i < n) : w.cell? ⟨G, i * 5, none⟩ = some (.int .i64 (kD R k i)) ∧ w.cell? ⟨G, i * 5 + 1, none⟩ = some (.int .i64 ((kD R k i : Int) + 1)) := by
 obtain ⟨f, h1, h2⟩ := h; exact ⟨by rw [h1.cell (i := i * 5) (by omega), h2.m0 i hi], by rw [h1.cell (i := i * 5 + 1) (by omega), h2.m1 i hi]⟩
theorem DRow.put {w : World} {G n : Nat} {R : Nat → Bk} {s : Nat → Sl} {k j : Nat} (h : DRow w G n R s k j) : DRow ((w.setCell ⟨G, j * 5, none⟩ (.int .i64 (kD R k j))).setCell ⟨G, j * 5 + 1, none⟩ (.int .i64 ((kD R k j : Int) + 1))) G n R s k (j + 1) := by
 obtain ⟨f, h1, h2⟩ := h; refine ⟨_, (h1.set (j * 5) _).set (j * 5 + 1) _, ⟨fun i hi => ?_, fun i hi => ?_, fun i hi => ?_, fun i hi => ?_, fun i hi => ?_⟩⟩
 ·
  rw [if_neg (by omega)]
  by_cases e : i = j
  · subst e; rw [if_pos rfl]
  · rw [if_neg (by omega)]; exact h2.m0 i (by omega)
 ·
  by_cases e : i = j
  · subst e; rw [if_pos rfl]
  · rw [if_neg (by omega), if_neg (by omega)]; exact h2.m1 i (by omega)
 · rw [if_neg (by omega), if_neg (by omega)]; exact h2.s2 i hi
 · rw [if_neg (by omega), if_neg (by omega)]; exact h2.s3 i hi
 · rw [if_neg (by omega), if_neg (by omega)]; exact h2.s4 i hi
theorem fr_one {a w : World} {P i : Nat} {u : Value} (h : Fr (fun x => x = P) a w) : Fr (fun x => x = P) a (w.setCell ⟨P, i, none⟩ u) := h.setCell (p := ⟨P, i, none⟩) rfl u
end Go.Proofs.YtdlaekjofgbjcaaGreatDoor
/-
 Dones appended one by one; what Run answers, as a list. Mine, by template (wip/gen.py).
-/
namespace Go.Proofs.YtdlaekjofgbjcaaGreatDoor
open Go.RowKit
def flatD (C : Nat → Int) (R : Nat → Bk) (s : Nat → Sl) (n : Nat) : List Value := (List.range (n * 5)).map (doneCells C R s)
def cellsD (c : Int) (B : Bk) (s : Sl) : List Value := [.int .i64 c, .int .i64 B.n, .slice s.ao B.orders.length s.co, .slice s.al B.locked.length s.cl, .slice s.ac B.occ.length s.cc]
theorem flatD_succ (C : Nat → Int) (R : Nat → Bk) (s : Nat → Sl) (n : Nat) (c : Int) (B : Bk) (t : Sl) :
  flatD (put1 C n c) (put1 R n B) (put1 s n t) (n + 1) = flatD C R s n ++ cellsD c B t := by
 unfold flatD; rw [show (n + 1) * 5 = n * 5 + 5 by omega, List.range_add, List.map_append]
 congr 1
 ·
  refine List.map_congr_left (fun j hj => ?_); have hj' : j < n * 5 := List.mem_range.1 hj; unfold doneCells; rw [put1_old C n c (i := j / 5) (by omega), put1_old R n B (i := j / 5) (by omega), put1_old s n t (i := j / 5) (by omega)]
 ·
  have d : ∀ r, r < 5 → (n * 5 + r) / 5 = n ∧ (n * 5 + r) % 5 = r := fun r hr => by omega
  have g : ∀ r, r < 5 → doneCells (put1 C n c) (put1 R n B) (put1 s n t) (n * 5 + r) = doneCell c B t r := fun r hr => by
   unfold doneCells; rw [(d r hr).1, (d r hr).2, put1_new, put1_new, put1_new]
  rw [show List.range 5 = [0, 1, 2, 3, 4] from rfl]; simp only [List.map_cons, List.map_nil]; rw [g 0 (by omega), g 1 (by omega), g 2 (by omega), g 3 (by omega), g 4 (by omega)]; rfl
structure RowDones (w : World) (lo : Nat) (u : Value) (n : Nat) (C : Nat → Int) (R : Nat → Bk) (s : Nat → Sl) (K : Nat → Blk) : Prop where
 row : w.ownsRow lo 39 5 u n (flatD C R s n)
 own : ∀ i, i < n → OwnBook w lo (bookV (R i) (s i)) (R i) (K i)
 dis : ∀ i, i < n → ∀ x, bookBlocks (R i) (K i) x → u.ownBlock ≠ some x
 apart : ∀ i j, i < n → j < n → i ≠ j → ∀ x, bookBlocks (R i) (K i) x → ¬ bookBlocks (R j) (K j) x
theorem RowDones.below {w w' : World} {lo : Nat} {u : Value} {n : Nat} {C : Nat → Int} {R : Nat → Bk} {s : Nat → Sl} {K : Nat → Blk} (h : RowDones w lo u n C R s K) (hb : Below w.heap.size w w') : RowDones w' lo u n C R s K :=
 ⟨owns_below h.row hb, fun i hi => (h.own i hi).below hb, h.dis, h.apart⟩
theorem RowDones.push {w w2 : World} {lo : Nat} {u u2 : Value} {n : Nat} {C : Nat → Int} {R : Nat → Bk} {s : Nat → Sl} {K : Nat → Blk} (h : RowDones w lo u n C R s K) (c : Int) (B : Bk) (t : Sl) (L : Blk)
  (hB : OwnBook w lo (bookV B t) B L) (hd : ∀ x, bookBlocks B L x → u.ownBlock ≠ some x) (ha : ∀ i, i < n → ∀ x, bookBlocks (R i) (K i) x → ¬ bookBlocks B L x)
  (h2 : w2.ownsRow lo 39 5 u2 (n + 1) (flatD C R s n ++ cellsD c B t)) (hg : w.grownBy w2 u.ownBlock) (hk : u2.ownBlock = u.ownBlock ∨ u2.ownBlock = some w.heap.size) :
  RowDones w2 lo u2 (n + 1) (put1 C n c) (put1 R n B) (put1 s n t) (put1 K n L) := by
 have hf : Fr (fun x => u.ownBlock = some x) w w2 := ⟨hg.os, hg.tape, hg.output, hg.size, fun k hk' hn => hg.block k hk' (fun e => hn e.symm)⟩
 have new : ∀ x, x < w.heap.size → u.ownBlock ≠ some x → u2.ownBlock ≠ some x := fun x hx hu => by
  rcases hk with e | e
  · rw [e]; exact hu
  · rw [e]; simp only [ne_eq, Option.some.injEq]; omega
 refine ⟨by rw [flatD_succ]; exact h2, fun i hi => ?_, fun i hi x hx => ?_, fun i j hi hj e x hx hy => ?_⟩
 ·
  by_cases ei : i = n
  ·
   subst ei; rw [put1_new, put1_new, put1_new]; exact hB.fr hf (fun b hb => hd b hb)
  ·
   have hi' : i < n := by omega
   rw [put1_old _ _ _ hi', put1_old _ _ _ hi', put1_old _ _ _ hi']; exact (h.own i hi').fr hf (fun b hb => h.dis i hi' b hb)
 ·
  by_cases ei : i = n
  ·
   subst ei; rw [put1_new, put1_new] at hx; exact new x (hB.blocks_lt hx) (hd x hx)
  ·
   have hi' : i < n := by omega
   rw [put1_old _ _ _ hi', put1_old _ _ _ hi'] at hx; exact new x ((h.own i hi').blocks_lt hx) (h.dis i hi' x hx)
 ·
  by_cases ei : i = n
  ·
   have hj' : j < n := by omega
   subst ei; rw [put1_new, put1_new] at hx; rw [put1_old _ _ _ hj', put1_old _ _ _ hj'] at hy; exact ha j hj' x hy hx
  ·
   have hi' : i < n := by omega
   rw [put1_old _ _ _ hi', put1_old _ _ _ hi'] at hx
   by_cases ej : j = n
   ·
    subst ej; rw [put1_new, put1_new] at hy; exact ha i hi' x hx hy
   ·
    have hj' : j < n := by omega
    rw [put1_old _ _ _ hj', put1_old _ _ _ hj'] at hy; exact h.apart i j hi' hj' e x hx hy
theorem RowDones.done {w : World} {lo : Nat} {u : Value} {n : Nat} {C : Nat → Int} {R : Nat → Bk} {s : Nat → Sl} {K : Nat → Blk} (h : RowDones w lo u n C R s K) :
  ∃ ad c G, u = .slice ad n c ∧ (0 < n → ad = some ⟨G, 0, none⟩) ∧ OwnDones w lo n C R G s K := by
 obtain ⟨ad, c, G, hv, hp⟩ := pre_of_owns h.row; refine ⟨ad, c, G, hv, fun p => (hp p).1, ⟨fun p => (hp p).2.2.1, fun p => (hp p).2.1, h.own, fun i hi x hx e => h.dis i hi x hx ?_, h.apart⟩⟩; rw [(hp (by omega)).2.2.2, e]
/-! ### What Run answers -/
noncomputable def rB (B : Bk) (X : Nat → Ev) : Nat → Bk
 | 0 => B
 | j + 1 => if (doP (rB B X j) (X j)).1 = 1 then rB B X j else (doP (rB B X j) (X j)).2
noncomputable def rC (B : Bk) (X : Nat → Ev) (j : Nat) : Int := (doP (rB B X j) (X j)).1
theorem tiny_rB {B : Bk} (h : Tiny B) (X : Nat → Ev) (j : Nat) : Tiny (rB B X j) := by
 induction j with
 | zero => exact h
 | succ j ih =>
  simp only [rB]; split
  · exact ih
  · exact tiny_doP _ _
end Go.Proofs.YtdlaekjofgbjcaaGreatDoor
/-
 The names in a book that an event leaves are short; so are those along a run. Mine, by template (wip/gen.py).
-/
namespace Go.Proofs.YtdlaekjofgbjcaaGreatDoor
open Go.RowKit
def Names (B : Bk) : Prop := ∀ i, i < B.orders.length → (bX B i).holder.size ≤ 20
theorem names_right {B : Bk} (h : Right B) : Names B := fun i hi => (h.2.1 i hi).1.2.2
theorem names_set {B : Bk} (h : Names B) (i : Nat) (s : Int) (hi : i < B.orders.length) : Names (setState B i s) := by
 intro j hj; rw [set_len] at hj
 have e : (bX (setState B i s) j).holder = (bX B j).holder := by
  show ((B.orders.set i (setSt (bX B i) s)).getD j Ord.zero).holder = _
  rw [getD_set _ _ _ _ _ hi]
  by_cases e : j = i
  · subst e; rw [if_pos rfl]; rfl
  · rw [if_neg e]; rfl
 rw [e]; exact h j hj
theorem names_doP (B : Bk) (E : Ev) : Names (doP B E).2 := by
 by_cases hok : EvOk B E
 case neg => rw [doP_none hok]; exact fun i hi => absurd hi (by simp [zeroBk])
 have hT := names_right hok.1; have hin := EvOk.some hok; unfold In at hin; have num : ∀ {n : Nat}, In E.of_ 0 ((n : Int) - 1) → E.of_.toNat < n := fun h => by unfold In at h; omega
 rcases (show E.op = 1 ∨ E.op = 2 ∨ E.op = 3 ∨ E.op = 4 ∨ E.op = 5 ∨ E.op = 6 ∨ E.op = 7 ∨ E.op = 8 ∨ E.op = 9 by omega) with o | o | o | o | o | o | o | o | o
 ·
  rw [doP_write hok o]; unfold doWrite; split
  ·
   intro i hi; have hl : (addOrd B (eOrd E)).orders.length = B.orders.length + 1 := by simp [addOrd]
   rw [hl] at hi
   by_cases e : i = B.orders.length
   ·
    subst e; show ((B.orders ++ [eOrd E]).getD B.orders.length Ord.zero).holder.size ≤ 20
    simp only [List.getD_eq_getElem?_getD, List.getElem?_concat_length, Option.getD_some]; exact (EvOk.at1 hok o).2.1.2.2
   ·
    have hi' : i < B.orders.length := by omega
    show ((B.orders ++ [eOrd E]).getD i Ord.zero).holder.size ≤ 20
    rw [List.getD_eq_getElem?_getD, List.getElem?_append_left hi', ← List.getD_eq_getElem?_getD]; exact hT i hi'
  · exact hT
 ·
  rw [doP_give hok o]; have := num (EvOk.at25 hok (Or.inl o)).1; unfold doGive; split
  · exact names_set hT _ _ this
  · exact hT
 ·
  rw [doP_repeat hok o]; have := num (EvOk.at3 hok o).1; unfold doRepeat; split
  · exact hT
  ·
   split
   · exact hT
   ·
    split
    · exact names_set hT _ _ this
    · exact names_set hT _ _ this
 ·
  rw [doP_back hok o]; have := num (EvOk.at4 hok o).1; unfold doBack; split
  · exact hT
  ·
   split
   · exact hT
   · exact names_set hT _ _ this
 ·
  rw [doP_cancel hok o]; have := num (EvOk.at25 hok (Or.inr o)).1; unfold doCancel; split
  · exact hT
  · exact names_set hT _ _ this
 ·
  rw [doP_lock hok o]; unfold doLock; split
  · exact hT
  · exact hT
 · rw [doP_unlock hok o]; exact hT
 · rw [doP_occ hok o]; exact hT
 · rw [doP_free hok o]; exact hT
theorem names_rB {B : Bk} (h : Names B) (X : Nat → Ev) (j : Nat) : Names (rB B X j) := by
 induction j with
 | zero => exact h
 | succ j ih =>
  simp only [rB]; split
  · exact ih
  · exact names_doP _ _
theorem small_rB {B : Bk} (ht : Tiny B) (h : Names B) (X : Nat → Ev) (j : Nat) : (rB B X j).orders.length ≤ 1048576 ∧ ∀ i, i < (rB B X j).orders.length → (bX (rB B X j) i).secs.length ≤ 1048576 ∧ (bX (rB B X j) i).holder.size ≤ 1048576 :=
 ⟨Nat.le_trans (tiny_rB ht X j).o (by decide), fun i hi => ⟨Nat.le_trans ((tiny_rB ht X j).s i hi) (by decide), Nat.le_trans (names_rB h X j i hi) (by decide)⟩⟩
end Go.Proofs.YtdlaekjofgbjcaaGreatDoor
