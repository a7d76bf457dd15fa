import Derived.Test.YtbgmgfnhmlpehabGreatDoorEvTo
import Derived.Test.YtbgmgfnhmlpehabGreatDoorFr
import Derived.Test.YtbgmgfnhmlpehabGreatDoorMark
import Derived.Deep.RegionHeld3
import Derived.Test.YtbgmgfnhmlpehabGreatDoorDoEq
import Derived.Test.YtbgmgfnhmlpehabGreatDoorMark2
import Derived.Test.YtbgmgfnhmlpehabGreatDoorHeld
import Derived.Test.YtbgmgfnhmlpehabGreatDoorPush
import Derived.Test.YtbgmgfnhmlpehabGreatDoorSCopy
import Derived.Test.YtbgmgfnhmlpehabGreatDoorIDo6
import Derived.Test.YtbgmgfnhmlpehabGreatDoorSDo2
import Derived.Test.YtbgmgfnhmlpehabGreatDoorICopy
import Derived.Test.YtbgmgfnhmlpehabGreatDoorErr
import Derived.OwnWalk
import Derived.Test.YtbgmgfnhmlpehabGreatDoorRows
import Derived.LaidLaws
import Derived.Lib.LaidTab
import Derived.Lib.ItoaNum
import Derived.Stop.LaidErr
import Derived.OpenVars
import Derived.Test.YtbgmgfnhmlpehabGreatDoorOpenE
import Derived.Test.YtbgmgfnhmlpehabGreatDoorCards
import Derived.Test.YtbgmgfnhmlpehabGreatDoorTie
import Derived.ProofKit
import Derived.OpenShut
import Derived.ChangeOld
import Derived.Below
import Derived.Deep.DeepHandedRow
/-
  Slices of events: what lies in memory; the contracts of laws.szEventS, toEventS, eqEventS. Mine, by template (wip/gen.py).
-/
namespace Go.Proofs.YtbgmgfnhmlpehabGreatDoor
open Go.RowKit

def Ev.zero : Ev := ⟨0, 0, ByteArray.empty, 0, [], ByteArray.empty⟩

/-- The event whose six cells lie at b, o. -/
structure EvCells (w : World) (b o : Nat) (x : Ev) (ad : Option Addr) (c : Nat) : Prop where
  c0 : w.cell? ⟨b, o, none⟩ = some (.int .i64 x.op)
  c1 : w.cell? ⟨b, o + 1, none⟩ = some (.int .i64 x.of_)
  c2 : w.cell? ⟨b, o + 2, none⟩ = some (.string x.holder)
  c3 : w.cell? ⟨b, o + 3, none⟩ = some (.int .i64 x.kind)
  c4 : w.cell? ⟨b, o + 4, none⟩ = some (.slice ad x.secs.length c)
  c5 : w.cell? ⟨b, o + 5, none⟩ = some (.string x.text)
  secs : Cells w ad x.secs.length (iV x.secs)

theorem EvCells.below {w w' : World} {b o : Nat} {x : Ev} {ad : Option Addr} {c : Nat} (h : EvCells w b o x ad c) (hb : Below w.heap.size w w') : EvCells w' b o x ad c := by
  have hl : b < w.heap.size := World.block_lt_of_cell? _ _ h.c0
  exact ⟨(hb.cell (p := ⟨b, o, none⟩) hl).trans h.c0, (hb.cell (p := ⟨b, o + 1, none⟩) hl).trans h.c1, (hb.cell (p := ⟨b, o + 2, none⟩) hl).trans h.c2, (hb.cell (p := ⟨b, o + 3, none⟩) hl).trans h.c3, (hb.cell (p := ⟨b, o + 4, none⟩) hl).trans h.c4, (hb.cell (p := ⟨b, o + 5, none⟩) hl).trans h.c5, h.secs.below hb⟩

/-- n events from where a slice begins. -/
def EventsAt (w : World) (ad : Option Addr) (n : Nat) (X : Nat → Ev) : Prop :=
  ∃ b o, (0 < n → ad = some ⟨b, o, none⟩) ∧ ∀ i, i < n → ∃ sa sc, EvCells w b (o + i * 6) (X i) sa sc

theorem EventsAt.below {w w' : World} {ad : Option Addr} {n : Nat} {X : Nat → Ev} (h : EventsAt w ad n X) (hb : Below w.heap.size w w') : EventsAt w' ad n X := by
  obtain ⟨b, o, h1, h2⟩ := h
  exact ⟨b, o, h1, fun i hi => by obtain ⟨sa, sc, h3⟩ := h2 i hi; exact ⟨sa, sc, h3.below hb⟩⟩

/-- The bulk of the first k events. -/
def sEv (X : Nat → Ev) : Nat → Nat
  | 0 => 0
  | k + 1 => sEv X k + wEv (X k)

theorem sEv_mem (X : Nat → Ev) (n i : Nat) (h : i < n) : wEv (X i) ≤ sEv X n := by
  induction n with
  | zero => omega
  | succ n ih =>
    simp only [sEv]
    by_cases e : i = n
    · subst e; omega
    · have := ih (by omega); omega

set_option maxHeartbeats 400000 in
theorem szEventS_any (a : Option Addr) (c n : Nat) (X : Nat → Ev) (left : Int) (w : World) (hn : n ≤ 9223372036854775807)
    (hs : ∀ i, i < n → (X i).holder.size ≤ 9223372036854775807 ∧ (X i).text.size ≤ 9223372036854775807 ∧ (X i).secs.length ≤ 9223372036854775807) (h0 : 0 ≤ left) (h1 : left ≤ 1048576) (G : EventsAt w a n X) :
    Calls Tryz.prog 19 #[.slice a n c, .int .i64 left] w fun e w' => ∃ r, e = .returned (.int .i64 r) ∧ szOk left ((n : Int) + sEv X n) r ∧ Below w.heap.size w w' := by
  obtain ⟨b, o, h2, g⟩ := G
  go_enter Tryz.func19, Tryz.ntmps19
  by_cases h : left - n < 0
  · go_wp2
    go_ret
    exact ⟨_, rfl, Or.inl (by decide), Below.refl _ _⟩
  · go_wp2
    go_loopw [1, 5] (fun l i wr => ∃ (k : Nat) (r : Int), k ≤ n ∧ i = .int .i64 k ∧ l = .int .i64 r ∧ 0 ≤ r ∧ r + (n : Int) + sEv X k = left ∧ Below w.heap.size w wr) (fun _ i _ => n - (intOf i).toNat)
    case atStart => exact ⟨0, left - n, Nat.zero_le _, rfl, rfl, by omega, by simp only [sEv]; omega, Below.refl _ _⟩
    case round =>
      obtain ⟨k, r, hk, rfl, rfl, hr0, hr, hb⟩ := hrel
      by_cases hlt : k < n
      · obtain rfl := h2 (by omega)
        obtain ⟨sa, sc, q⟩ := g k hlt
        have hsk := hs k hlt
        have q' := q.below hb
        clear g h2 hs q
        obtain ⟨x0, x1, x2, x3, x4, x5, x6⟩ := q'
        have hrl : r ≤ 1048576 := by omega
        have HR : Hid (r + (n : Int) + sEv X k = left) := hr
        clear hr
        go_wp2_with fail
        refine (szEvent_any _ (X k) r _ hsk.1 hsk.2.1 hsk.2.2 hr0 hrl ⟨sa, sc, rfl, x6⟩).mono ?_
        rintro e w1 ⟨r1, rfl, hr1, hb1⟩
        have HR1 : Hid (szOk r (wEv (X k)) r1) := hr1
        have hb2 := below_trans hb hb.size hb1
        clear hb1 hr1 x0 x1 x2 x3 x4 x5 x6
        by_cases h3 : r1 < 0
        · go_wp2
          go_ret
          exact ⟨_, rfl, Or.inl (by decide), hb2⟩
        · go_wp2
          go_roundw
          case rel =>
            refine ⟨k + 1, r1, by omega, by go_num, rfl, by omega, ?_, hb2⟩
            have e2 := HR.out
            rcases HR1.out with e3 | ⟨e3, e4⟩
            · omega
            · simp only [sEv]; omega
          case measure => simp [intOf]; omega
      · clear g h2 hs
        have HR : Hid (r + (n : Int) + sEv X k = left) := hr
        clear hr
        go_wp2
        go_ret
        refine ⟨_, rfl, Or.inr ⟨hr0, ?_⟩, hb⟩
        obtain rfl : k = n := by omega
        have := HR.out
        omega

end Go.Proofs.YtbgmgfnhmlpehabGreatDoor

/-
  A slice of events that owns its memory; the contract of laws.toEventS. Mine, by template (wip/gen.py).
-/
namespace Go.Proofs.YtbgmgfnhmlpehabGreatDoor
open Go.RowKit

theorem Tryz.infoEvent : (Tryz.prog.info? 38).map (fun i => (i.zero, i.size, i.bytes)) = some (some (.agg #[.int .i64 0, .int .i64 0, .string ByteArray.empty, .int .i64 0, .slice none 0 0, .string ByteArray.empty]), 6, 80) := by kernel_rfl

def evCell (x : Ev) (g : Nat) : Nat → Value
  | 0 => .int .i64 x.op
  | 1 => .int .i64 x.of_
  | 2 => .string x.holder
  | 3 => .int .i64 x.kind
  | 4 => .slice (some ⟨g, 0, none⟩) x.secs.length x.secs.length
  | _ => .string x.text
def evCells (X : Nat → Ev) (gs : Nat → Nat) (j : Nat) : Value := evCell (X (j / 6)) (gs (j / 6)) (j % 6)

/-- n events in block G, each one's sections in a block of its own. -/
structure OwnEvs (w : World) (lo n : Nat) (X : Nat → Ev) (G : Nat) (gs : Nat → Nat) : Prop where
  row : Pre w G 38 (n * 6) (evCells X gs)
  low : lo ≤ G
  sec : ∀ i, i < n → Pre w (gs i) 3 (X i).secs.length (iV (X i).secs)
  slow : ∀ i, i < n → lo ≤ gs i ∧ gs i ≠ G
  inj : ∀ i j, i < n → j < n → gs i = gs j → i = j

/-- The blocks that it owns. -/
def evBlocks (n G : Nat) (gs : Nat → Nat) (x : Nat) : Prop := x = G ∨ ∃ i, i < n ∧ x = gs i

theorem OwnEvs.fr {w w' : World} {lo n : Nat} {X : Nat → Ev} {G : Nat} {gs : Nat → Nat} (h : OwnEvs w lo n X G gs) {S : Nat → Prop} (hf : Fr S w w') (hs : ∀ x, evBlocks n G gs x → ¬ S x) : OwnEvs w' lo n X G gs :=
  ⟨hf.row h.row (hs _ (Or.inl rfl)), h.low, fun i hi => hf.row (h.sec i hi) (hs _ (Or.inr ⟨i, hi, rfl⟩)), h.slow, h.inj⟩
theorem OwnEvs.below {w w' : World} {lo n : Nat} {X : Nat → Ev} {G : Nat} {gs : Nat → Nat} (h : OwnEvs w lo n X G gs) (hb : Below w.heap.size w w') : OwnEvs w' lo n X G gs :=
  h.fr (S := fun _ => False) (Fr.of_below hb) (fun _ _ h => h)
theorem OwnEvs.blocks {w : World} {lo n : Nat} {X : Nat → Ev} {G : Nat} {gs : Nat → Nat} (h : OwnEvs w lo n X G gs) {x : Nat} (hx : evBlocks n G gs x) : lo ≤ x ∧ x < w.heap.size := by
  rcases hx with rfl | ⟨i, hi, rfl⟩
  · exact ⟨h.low, h.row.lt⟩
  · exact ⟨(h.slow i hi).1, (h.sec i hi).lt⟩

theorem ev_at {w : World} {G n : Nat} {X : Nat → Ev} {gs : Nat → Nat} (hr : Pre w G 38 (n * 6) (evCells X gs)) {i : Nat} (hi : i < n) (hs : Pre w (gs i) 3 (X i).secs.length (iV (X i).secs)) :
    EvCells w G (i * 6) (X i) (some ⟨gs i, 0, none⟩) (X i).secs.length := by
  have d : ∀ r, r < 6 → (i * 6 + r) / 6 = i ∧ (i * 6 + r) % 6 = r := fun r hr => by omega
  have c : ∀ r, r < 6 → w.cell? ⟨G, i * 6 + r, none⟩ = some (evCell (X i) (gs i) r) := fun r hr' => by
    rw [hr.cell (i := i * 6 + r) (by omega)]
    unfold evCells
    rw [(d r hr').1, (d r hr').2]
  exact ⟨c 0 (by omega), c 1 (by omega), c 2 (by omega), c 3 (by omega), c 4 (by omega), c 5 (by omega), gs i, 0, fun _ => rfl, fun j hj => by rw [Nat.zero_add]; exact hs.cell hj⟩

theorem OwnEvs.at_ {w : World} {lo n : Nat} {X : Nat → Ev} {G : Nat} {gs : Nat → Nat} (h : OwnEvs w lo n X G gs) : EventsAt w (some ⟨G, 0, none⟩) n X :=
  ⟨G, 0, fun _ => rfl, fun i hi => ⟨_, _, by rw [Nat.zero_add]; exact ev_at h.row hi (h.sec i hi)⟩⟩

/-- What lies in block G when k of n events are laid: z is what was there. -/
def laidEv (X : Nat → Ev) (gs : Nat → Nat) (z : Nat → Value) (k : Nat) (j : Nat) : Value := if j / 6 < k then evCells X gs j else z j

theorem laidEv_step {w : World} {G n k : Nat} {t : TypeId} {X : Nat → Ev} {gs : Nat → Nat} {z : Nat → Value} (h : w.rowIs G t (n * 6) (laidEv X gs z k)) (g : Nat) :
    ((((((w.setCell ⟨G, k * 6, none⟩ (.int .i64 (X k).op)).setCell ⟨G, k * 6 + 1, none⟩ (.int .i64 (X k).of_)).setCell ⟨G, k * 6 + 2, none⟩ (.string (X k).holder)).setCell ⟨G, k * 6 + 3, none⟩ (.int .i64 (X k).kind)).setCell ⟨G, k * 6 + 4, none⟩ (.slice (some ⟨g, 0, none⟩) (X k).secs.length (X k).secs.length)).setCell ⟨G, k * 6 + 5, none⟩ (.string (X k).text)).rowIs G t (n * 6)
      (laidEv X (fun i => if i = k then g else gs i) z (k + 1)) := by
  refine ((((((h.set _ _).set _ _).set _ _).set _ _).set _ _).set _ _).congr (fun j _ => ?_)
  have hd : j = 6 * (j / 6) + j % 6 := (Nat.div_add_mod j 6).symm
  have hm : j % 6 < 6 := Nat.mod_lt _ (by omega)
  unfold laidEv evCells
  by_cases e : j / 6 = k
  · rw [if_pos (show j / 6 < k + 1 by omega)]
    simp only [e, if_true]
    rcases (show j % 6 = 0 ∨ j % 6 = 1 ∨ j % 6 = 2 ∨ j % 6 = 3 ∨ j % 6 = 4 ∨ j % 6 = 5 by omega) with q | q | q | q | q | q
    · rw [if_neg (by omega), if_neg (by omega), if_neg (by omega), if_neg (by omega), if_neg (by omega), if_pos (by omega), q]; rfl
    · rw [if_neg (by omega), if_neg (by omega), if_neg (by omega), if_neg (by omega), if_pos (by omega), q]; rfl
    · rw [if_neg (by omega), if_neg (by omega), if_neg (by omega), if_pos (by omega), q]; rfl
    · rw [if_neg (by omega), if_neg (by omega), if_pos (by omega), q]; rfl
    · rw [if_neg (by omega), if_pos (by omega), q]; rfl
    · rw [if_pos (by omega), q]; rfl
  · rw [if_neg (by omega), if_neg (by omega), if_neg (by omega), if_neg (by omega), if_neg (by omega), if_neg (by omega)]
    by_cases hl : j / 6 < k
    · rw [if_pos hl, if_pos (by omega)]; simp only [e, if_false]
    · rw [if_neg hl, if_neg (by omega)]

def zEv : Array Value := #[.int .i64 0, .int .i64 0, .string ByteArray.empty, .int .i64 0, .slice none 0 0, .string ByteArray.empty]
theorem zEv_size : zEv.size = 6 := rfl

theorem make_events (n : Nat) (hn : n ≤ 1048576) (w : World) :
    (Instr.makeSlice 51 (.int .i64 (n : Int)) (.int .i64 (n : Int))).run Tryz.prog w = .ok (.slice (some ⟨w.heap.size, 0, none⟩) n n) (w.alloc (.cells (madeCells zEv (n * 6)) 38)) := by
  obtain ⟨i, hi, hz⟩ := Option.map_eq_some_iff.1 Tryz.infoEvent
  simp only [Prod.mk.injEq] at hz
  obtain ⟨hz, hs, hb⟩ := hz
  have h := run_make (P := Tryz.prog) w 51 38 i _ Tryz.underlying51 hi hz .i64 .i64 n n (by omega) (Int.le_refl _) (by rw [hb]; omega) (by omega)
  rw [hs, Int.toNat_natCast] at h
  exact h

theorem made_events (w : World) (n : Nat) (X : Nat → Ev) (gs : Nat → Nat) : (w.alloc (.cells (madeCells zEv (n * 6)) 38)).rowIs w.heap.size 38 (n * 6) (laidEv X gs (fun j => zEv[j % 6]!) 0) := by
  refine ⟨_, Deep.blk_alloc_new _ _, size_madeCells _ _, fun j hj => ?_⟩
  simp [madeCells, hj, laidEv, zEv_size]

set_option maxHeartbeats 1000000 in
theorem toEventS_any (a : Option Addr) (c n : Nat) (X : Nat → Ev) (w : World) (hn : n ≤ 1048576) (hsec : ∀ i, i < n → (X i).secs.length ≤ 1048576) (K : EventsAt w a n X) :
    Calls Tryz.prog 21 #[.slice a n c] w fun e w' => ∃ gs, e = .returned (.slice (some ⟨w.heap.size, 0, none⟩) n n) ∧ OwnEvs w' w.heap.size n X w.heap.size gs ∧ Below w.heap.size w w' := by
  obtain ⟨b, o, h1, g1⟩ := K
  have hmk := make_events n hn
  go_enter Tryz.func21, Tryz.ntmps21
  go_wp2
  clear hmk
  go_loopw [4] (fun i wr => ∃ (k : Nat) (gs : Nat → Nat), k ≤ n ∧ i = .int .i64 k ∧ Below w.heap.size w wr ∧ wr.rowIs w.heap.size 38 (n * 6) (laidEv X gs (fun j => zEv[j % 6]!) k) ∧
      (∀ i, i < k → Pre wr (gs i) 3 (X i).secs.length (iV (X i).secs) ∧ w.heap.size < gs i) ∧ (∀ i j, i < k → j < k → gs i = gs j → i = j)) (fun i _ => n - (intOf i).toNat)
  case atStart => exact ⟨0, fun _ => 0, Nat.zero_le _, rfl, below1 _ _, made_events w n _ _, fun i hi => absurd hi (by omega), fun i j hi => absurd hi (by omega)⟩
  case round =>
    obtain ⟨k, gs, hk, rfl, hb, hrow, hse, hinj⟩ := hrel
    by_cases hlt : k < n
    · obtain rfl := h1 (by omega)
      obtain ⟨sa0, sc0, q⟩ := g1 k hlt
      have hsk := hsec k hlt
      have q' := q.below hb
      clear g1 h1 hsec q
      obtain ⟨x0, x1, x2, x3, x4, x5, x6⟩ := q'
      have HS : Hid (∀ i, i < k → Pre wr (gs i) 3 (X i).secs.length (iV (X i).secs) ∧ w.heap.size < gs i) := hse
      have HI : Hid (∀ i j, i < k → j < k → gs i = gs j → i = j) := hinj
      clear hse hinj
      go_wp2_with fail
      refine (toEvent_any _ (X k) _ hsk ⟨sa0, sc0, rfl, x6⟩).mono ?_
      rintro e w1 ⟨v, g, rfl, ⟨rfl, hg, hrg⟩, hb1⟩
      have hl : w.heap.size < wr.heap.size := hrow.lt
      have hrow1 : w1.rowIs w.heap.size 38 (n * 6) (laidEv X gs (fun j => zEv[j % 6]!) k) := hrow.of_block (hb1.block _ hl)
      have d0 := hrow1.cell (i := k * 6) (by omega)
      have d1 := hrow1.cell (i := k * 6 + 1) (by omega)
      have d2 := hrow1.cell (i := k * 6 + 2) (by omega)
      have d3 := hrow1.cell (i := k * 6 + 3) (by omega)
      have d4 := hrow1.cell (i := k * 6 + 4) (by omega)
      have d5 := hrow1.cell (i := k * 6 + 5) (by omega)
      have f0 := hrow1.frozen (k * 6)
      have f1 := hrow1.frozen (k * 6 + 1)
      have f2 := hrow1.frozen (k * 6 + 2)
      have f3 := hrow1.frozen (k * 6 + 3)
      have f4 := hrow1.frozen (k * 6 + 4)
      have f5 := hrow1.frozen (k * 6 + 5)
      have HB : Hid (Below wr.heap.size wr w1 ∧ w1.rowIs w.heap.size 38 (n * 6) (laidEv X gs (fun j => zEv[j % 6]!) k) ∧ Pre w1 g 3 (X k).secs.length (iV (X k).secs)) := ⟨hb1, hrow1, hrg⟩
      clear hb1 hrow hrow1 hrg
      go_wp2
      go_roundw
      case rel =>
        have hbW : Below w.heap.size w w1 := below_trans hb hb.size HB.out.1
        refine ⟨k + 1, fun i => if i = k then g else gs i, by omega, by go_num, ?_, laidEv_step HB.out.2.1 g, ?_, ?_⟩
        · repeat (refine below_set ?_ _ _ (Nat.le_refl _) _)
          exact hbW
        · intro i hi
          by_cases e : i = k
          · subst e
            simp only [if_true]
            refine ⟨?_, by omega⟩
            have t := HB.out.2.2
            exact (((((t.setOther (by show g ≠ w.heap.size; omega) _).setOther (by show g ≠ w.heap.size; omega) _).setOther (by show g ≠ w.heap.size; omega) _).setOther (by show g ≠ w.heap.size; omega) _).setOther (by show g ≠ w.heap.size; omega) _).setOther (by show g ≠ w.heap.size; omega) _
          · simp only [if_neg e]
            obtain ⟨u2, u3⟩ := HS.out i (by omega)
            have u4 : Pre w1 (gs i) 3 (X i).secs.length (iV (X i).secs) := u2.of_block (HB.out.1.block _ u2.lt)
            refine ⟨?_, u3⟩
            exact (((((u4.setOther (by show gs i ≠ w.heap.size; omega) _).setOther (by show gs i ≠ w.heap.size; omega) _).setOther (by show gs i ≠ w.heap.size; omega) _).setOther (by show gs i ≠ w.heap.size; omega) _).setOther (by show gs i ≠ w.heap.size; omega) _).setOther (by show gs i ≠ w.heap.size; omega) _
        · intro i j hi hj e
          by_cases ei : i = k
          · by_cases ej : j = k
            · omega
            · simp only [if_pos ei, if_neg ej] at e
              have := (HS.out j (by omega)).1.lt
              omega
          · by_cases ej : j = k
            · simp only [if_neg ei, if_pos ej] at e
              have := (HS.out i (by omega)).1.lt
              omega
            · simp only [if_neg ei, if_neg ej] at e
              exact HI.out i j (by omega) (by omega) e
      case measure => simp [intOf]; omega
    · obtain rfl : k = n := by omega
      have HR : Hid (wr.rowIs w.heap.size 38 (k * 6) (laidEv X gs (fun j => zEv[j % 6]!) k) ∧ (∀ i, i < k → Pre wr (gs i) 3 (X i).secs.length (iV (X i).secs) ∧ w.heap.size < gs i) ∧ (∀ i j, i < k → j < k → gs i = gs j → i = j)) := ⟨hrow, hse, hinj⟩
      clear g1 h1 hsec hrow hse hinj
      go_wp2
      go_ret
      obtain ⟨hrow, hse, hinj⟩ := HR.out
      refine ⟨gs, rfl, ⟨preOf (hrow.congr (fun j hj => ?_)), Nat.le_refl _, fun i hi => (hse i hi).1, fun i hi => ⟨by have := (hse i hi).2; omega, by have := (hse i hi).2; omega⟩, hinj⟩, hb⟩
      unfold laidEv
      rw [if_pos (by omega)]

end Go.Proofs.YtbgmgfnhmlpehabGreatDoor

/-
  The contracts of laws.eqEventS and markEventS. Mine, by template (wip/gen.py).
-/
namespace Go.Proofs.YtbgmgfnhmlpehabGreatDoor
open Go.RowKit

set_option maxHeartbeats 1000000 in
theorem eqEventS_same (a1 a2 : Option Addr) (c1 c2 n : Nat) (X : Nat → Ev) (w : World) (hn : n ≤ 1048576) (hs : ∀ i, i < n → (X i).secs.length ≤ 1048576) (G1 : EventsAt w a1 n X) (G2 : EventsAt w a2 n X) :
    Calls Tryz.prog 24 #[.slice a1 n c1, .slice a2 n c2] w fun e w' => e = .returned (.bool true) ∧ Below w.heap.size w w' := by
  obtain ⟨b1, o1, h1, g1⟩ := G1
  obtain ⟨b2, o2, h2, g2⟩ := G2
  go_enter Tryz.func24, Tryz.ntmps24
  go_wp2
  go_loopw [5] (fun i wr => ∃ k : Nat, k ≤ n ∧ i = .int .i64 k ∧ Below w.heap.size w wr) (fun i _ => n - (intOf i).toNat)
  case atStart => exact ⟨0, Nat.zero_le _, rfl, Below.refl _ _⟩
  case round =>
    obtain ⟨k, hk, rfl, hb⟩ := hrel
    by_cases hlt : k < n
    · obtain rfl := h1 (by omega)
      obtain rfl := h2 (by omega)
      obtain ⟨sa1, sc1, q1⟩ := g1 k hlt
      obtain ⟨sa2, sc2, q2⟩ := g2 k hlt
      have hsk := hs k hlt
      clear g1 g2 h1 h2 hs
      have r1 := q1.below hb
      have r2 := q2.below hb
      clear q1 q2
      have l1 : b1 < wr.heap.size := World.block_lt_of_cell? _ _ r1.c0
      have l2 : b2 < wr.heap.size := World.block_lt_of_cell? _ _ r2.c0
      obtain ⟨x0, x1, x2, x3, x4, x5, x6⟩ := r1
      obtain ⟨y0, y1, y2, y3, y4, y5, y6⟩ := r2
      have HX : Hid (Cells wr sa1 (X k).secs.length (iV (X k).secs) ∧ Cells wr sa2 (X k).secs.length (iV (X k).secs)) := ⟨x6, y6⟩
      clear x6 y6
      have hz : (0 : Int) ≤ (k : Int) := by omega
      have hlz : (k : Int) < (n : Int) := by omega
      go_wp2
      go_region_held3 (fun w' => w'.cell? ⟨b1, o1 + k * 6, none⟩ = some (.int .i64 (X k).op) ∧ w'.cell? ⟨b1, o1 + k * 6 + 1, none⟩ = some (.int .i64 (X k).of_) ∧ w'.cell? ⟨b1, o1 + k * 6 + 2, none⟩ = some (.string (X k).holder) ∧ w'.cell? ⟨b1, o1 + k * 6 + 3, none⟩ = some (.int .i64 (X k).kind) ∧ w'.cell? ⟨b1, o1 + k * 6 + 4, none⟩ = some (.slice sa1 (X k).secs.length sc1) ∧ w'.cell? ⟨b1, o1 + k * 6 + 5, none⟩ = some (.string (X k).text) ∧ w'.cell? ⟨b2, o2 + k * 6, none⟩ = some (.int .i64 (X k).op) ∧ w'.cell? ⟨b2, o2 + k * 6 + 1, none⟩ = some (.int .i64 (X k).of_) ∧ w'.cell? ⟨b2, o2 + k * 6 + 2, none⟩ = some (.string (X k).holder) ∧ w'.cell? ⟨b2, o2 + k * 6 + 3, none⟩ = some (.int .i64 (X k).kind) ∧ w'.cell? ⟨b2, o2 + k * 6 + 4, none⟩ = some (.slice sa2 (X k).secs.length sc2) ∧ w'.cell? ⟨b2, o2 + k * 6 + 5, none⟩ = some (.string (X k).text)) (first | go_keep | skip)
        (first | (go_at_call 14; refine (eqEvent_same _ _ (X k) _ hsk ⟨sa1, sc1, rfl, HX.out.1.below ((Below.refl _ _).drew)⟩ ⟨sa2, sc2, rfl, HX.out.2.below ((Below.refl _ _).drew)⟩).mono ?_; rintro e w1 ⟨rfl, hb1⟩; have hb2 : Below w.heap.size w w1 := below_trans hb hb.size (show Below wr.heap.size wr w1 from (Below.refl _ _).drew.trans hb1); obtain ⟨hc1, hf1⟩ := bcell (show Below wr.heap.size wr w1 from (Below.refl _ _).drew.trans hb1); clear hf1))
      clear hc1 hb1
      go_wp2
      go_roundw
      case rel => exact ⟨k + 1, by omega, by go_num, hb2⟩
      case measure => simp [intOf]; omega
    · clear g1 g2 h1 h2 hs
      go_wp2
      go_ret
      exact ⟨rfl, hb⟩

end Go.Proofs.YtbgmgfnhmlpehabGreatDoor

/-
  The contract of laws.markEventS (which blocks turn, and that its number does not run out). Mine, by template (wip/gen.py).
-/
namespace Go.Proofs.YtbgmgfnhmlpehabGreatDoor
open Go.RowKit

/-- The row of n events, of which those from j on still name their sections. -/
def EvRow (w : World) (G n : Nat) (X : Nat → Ev) (gs : Nat → Nat) (j : Nat) : Prop :=
  ∃ f, Pre w G 38 (n * 6) f ∧ ∀ i, j ≤ i → i < n → f (i * 6 + 4) = .slice (some ⟨gs i, 0, none⟩) (X i).secs.length (X i).secs.length

theorem EvRow.of_block {w w' : World} {G n : Nat} {X : Nat → Ev} {gs : Nat → Nat} {j : Nat} (h : EvRow w G n X gs j) (e : w'.heap[G]? = w.heap[G]?) : EvRow w' G n X gs j := by
  obtain ⟨f, h1, h2⟩ := h
  exact ⟨f, h1.of_block e, h2⟩
theorem EvRow.lt {w : World} {G n : Nat} {X : Nat → Ev} {gs : Nat → Nat} {j : Nat} (h : EvRow w G n X gs j) : G < w.heap.size := by
  obtain ⟨f, h1, h2⟩ := h
  exact h1.lt
theorem EvRow.next {w : World} {G n : Nat} {X : Nat → Ev} {gs : Nat → Nat} {j : Nat} (h : EvRow w G n X gs j) : EvRow w G n X gs (j + 1) := by
  obtain ⟨f, h1, h2⟩ := h
  exact ⟨f, h1, fun i hi hn => h2 i (by omega) hn⟩
theorem EvRow.put {w : World} {G n : Nat} {X : Nat → Ev} {gs : Nat → Nat} {j : Nat} (h : EvRow w G n X gs j) (i r : Nat) (hr : r < 6) (h4 : r ≠ 4) (v : Value) : EvRow (w.setCell ⟨G, i * 6 + r, none⟩ v) G n X gs j := by
  obtain ⟨f, h1, h2⟩ := h
  exact ⟨_, h1.set (i * 6 + r) v, fun i' hi hn => by rw [if_neg (by omega)]; exact h2 i' hi hn⟩
theorem EvRow.cell {w : World} {G n : Nat} {X : Nat → Ev} {gs : Nat → Nat} {j : Nat} (h : EvRow w G n X gs j) (i r : Nat) (hi : i < n) (hr : r < 6) : ∃ v, w.cell? ⟨G, i * 6 + r, none⟩ = some v ∧ w.frozen? ⟨G, i * 6 + r, none⟩ = false := by
  obtain ⟨f, h1, h2⟩ := h
  exact ⟨_, h1.cell (i := i * 6 + r) (by omega), h1.frozen _⟩
theorem EvRow.sec {w : World} {G n : Nat} {X : Nat → Ev} {gs : Nat → Nat} {j : Nat} (h : EvRow w G n X gs j) (i : Nat) (hj : j ≤ i) (hi : i < n) : w.cell? ⟨G, i * 6 + 4, none⟩ = some (.slice (some ⟨gs i, 0, none⟩) (X i).secs.length (X i).secs.length) := by
  obtain ⟨f, h1, h2⟩ := h
  rw [h1.cell (i := i * 6 + 4) (by omega), h2 i hj hi]

/-- The number behind j events. -/
def kEv (X : Nat → Ev) (k : Nat) : Nat → Nat
  | 0 => k
  | j + 1 => kEv X k j + 5 + (X j).secs.length
theorem kEv_mono (X : Nat → Ev) (k : Nat) {i j : Nat} (h : i ≤ j) : kEv X k i ≤ kEv X k j := by
  induction j with
  | zero => obtain rfl : i = 0 := by omega
            exact Nat.le_refl _
  | succ j ih =>
    by_cases e : i = j + 1
    · subst e; exact Nat.le_refl _
    · have := ih (by omega)
      simp only [kEv]; omega

/-- What is kept in a round of markEventS. -/
structure EvMid (w wr : World) (n : Nat) (X : Nat → Ev) (G : Nat) (gs : Nat → Nat) (j : Nat) : Prop where
  row : EvRow wr G n X gs j
  sec : ∀ i, j ≤ i → i < n → Pre wr (gs i) 3 (X i).secs.length (iV (X i).secs)
  fr : Fr (evBlocks n G gs) w wr

theorem EvMid.below {w wr w' : World} {n : Nat} {X : Nat → Ev} {G : Nat} {gs : Nat → Nat} {j : Nat} (h : EvMid w wr n X G gs j) (hb : Below wr.heap.size wr w') : EvMid w w' n X G gs j :=
  ⟨h.row.of_block (hb.block _ h.row.lt), fun i hj hi => (h.sec i hj hi).of_block (hb.block _ (h.sec i hj hi).lt), h.fr.trans (Fr.of_below hb)⟩
theorem EvMid.put {w wr : World} {n : Nat} {X : Nat → Ev} {G : Nat} {gs : Nat → Nat} {j : Nat} (h : EvMid w wr n X G gs j) (hg : ∀ i, i < n → gs i ≠ G) (i r : Nat) (hr : r < 6) (h4 : r ≠ 4) (v : Value) : EvMid w (wr.setCell ⟨G, i * 6 + r, none⟩ v) n X G gs j :=
  ⟨h.row.put i r hr h4 v, fun i' hj hi => (h.sec i' hj hi).setOther (hg i' hi) _, h.fr.setCell (p := ⟨G, i * 6 + r, none⟩) (Or.inl rfl) _⟩
theorem EvMid.put0 {w wr : World} {n : Nat} {X : Nat → Ev} {G : Nat} {gs : Nat → Nat} {j : Nat} (h : EvMid w wr n X G gs j) (hg : ∀ i, i < n → gs i ≠ G) (i : Nat) (v : Value) : EvMid w (wr.setCell ⟨G, i * 6, none⟩ v) n X G gs j := h.put hg i 0 (by omega) (by omega) v
/-- .. over the marks of event j's sections. -/
theorem EvMid.marked {w wr w' : World} {n : Nat} {X : Nat → Ev} {G : Nat} {gs : Nat → Nat} {j : Nat} (h : EvMid w wr n X G gs j) (hj : j < n) (hg : ∀ i, i < n → gs i ≠ G) (hinj : ∀ i j, i < n → j < n → gs i = gs j → i = j) {c : Prop} (hf : Fr (fun b => c ∧ b = gs j) wr w') : EvMid w w' n X G gs (j + 1) :=
  ⟨(h.row.of_block (hf.block _ h.row.lt (fun q => hg j hj q.2.symm))).next, fun i hi hn => hf.row (h.sec i (by omega) hn) (fun q => by have := hinj i j hn hj q.2; omega), h.fr.trans (hf.mono (fun x q => Or.inr ⟨j, hj, q.2⟩))⟩

set_option maxHeartbeats 2000000 in
theorem markEventS_any (c n : Nat) (X : Nat → Ev) (k lo G : Nat) (gs : Nat → Nat) (w : World) (h0 : 0 < k) (hk : kEv X k n ≤ 2305843009213693952) (hn : n ≤ 1048576) (h : OwnEvs w lo n X G gs) :
    Calls Tryz.prog 25 #[.slice (some ⟨G, 0, none⟩) n c, .int .i64 k] w fun e w' => e = .returned (.int .i64 (kEv X k n)) ∧ Fr (evBlocks n G gs) w w' := by
  have H0 : Hid ((∀ i, i < n → gs i ≠ G) ∧ (∀ i j, i < n → j < n → gs i = gs j → i = j) ∧ kEv X k n ≤ 2305843009213693952) := ⟨fun i hi => (h.slow i hi).2, h.inj, hk⟩
  have M0 : Hid (EvMid w w n X G gs 0) := ⟨⟨_, h.row, fun i _ hi => by unfold evCells; rw [show (i * 6 + 4) / 6 = i by omega, show (i * 6 + 4) % 6 = 4 by omega]; rfl⟩, fun i _ hi => h.sec i hi, Fr.refl _ _⟩
  clear h hk
  go_enter Tryz.func25, Tryz.ntmps25
  go_wp2
  go_loopw [1, 5] (fun q i wr => ∃ j : Nat, j ≤ n ∧ i = .int .i64 j ∧ q = .int .i64 (kEv X k j) ∧ EvMid w wr n X G gs j) (fun _ i _ => n - (intOf i).toNat)
  case atStart => exact ⟨0, Nat.zero_le _, rfl, rfl, M0.out⟩
  case round =>
    obtain ⟨j, hj, rfl, rfl, hm⟩ := hrel
    clear M0
    by_cases hlt : j < n
    · obtain ⟨kj, hkj⟩ : ∃ kj, kj = kEv X k j := ⟨_, rfl⟩
      have hkn : kj + 5 + (X j).secs.length ≤ 2305843009213693952 := by
        have := kEv_mono X k (i := j + 1) (j := n) (by omega)
        have := H0.out.2.2
        simp only [kEv] at *
        omega
      have hk0 : 0 < kj := by
        have := kEv_mono X k (i := 0) (j := j) (by omega)
        simp only [kEv] at this
        omega
      rw [← hkj]
      have HK : Hid (kj = kEv X k j) := hkj
      have HM : Hid (EvMid w wr n X G gs j) := hm
      clear hkj hm
      obtain ⟨v0, x0, f0⟩ := HM.out.row.cell j 0 hlt (by omega)
      obtain ⟨v1, x1, f1⟩ := HM.out.row.cell j 1 hlt (by omega)
      rw [Nat.add_zero] at x0 f0
      go_wp2_with fail
      have e2 : (kj : Int) + 1 + 1 = ((kj + 2 : Nat) : Int) := by omega
      rw [e2]
      refine (markText_any (kj + 2) _ (by omega) (by omega)).mono ?_
      rintro e w1 ⟨rfl, hb⟩
      have HM1 : Hid (EvMid w w1 n X G gs j) := ((HM.out.put0 H0.out.1 j _).put H0.out.1 j 1 (by omega) (by omega) _).below hb
      clear hb x0 x1 f0 f1 HM
      obtain ⟨v2, x2, f2⟩ := HM1.out.row.cell j 2 hlt (by omega)
      obtain ⟨v3, x3, f3⟩ := HM1.out.row.cell j 3 hlt (by omega)
      have x4 := HM1.out.row.sec j (Nat.le_refl _) hlt
      go_wp2_with fail
      refine (markIntS_any _ _ (X j).secs.length (gs j) (iV (X j).secs) ((kj : Int) + 2 + 1 + 1) _ (by omega) (by omega) (fun _ => rfl) (fun _ => ((HM1.out.put H0.out.1 j 2 (by omega) (by omega) _).put H0.out.1 j 3 (by omega) (by omega) _).sec j (Nat.le_refl _) hlt)).mono ?_
      rintro e w2 ⟨rfl, -, hf⟩
      have HM2 : Hid (EvMid w w2 n X G gs (j + 1)) := ((HM1.out.put H0.out.1 j 2 (by omega) (by omega) _).put H0.out.1 j 3 (by omega) (by omega) _).marked hlt H0.out.1 H0.out.2.1 hf
      clear hf x2 x3 x4 f2 f3 HM1
      go_wp2_with fail
      have e3 : (kj : Int) + 2 + 1 + 1 + ((X j).secs.length : Int) = ((kj + 4 + (X j).secs.length : Nat) : Int) := by omega
      rw [e3]
      refine (markText_any (kj + 4 + (X j).secs.length) _ (by omega) (by omega)).mono ?_
      rintro e w3 ⟨rfl, hb⟩
      have HM3 : Hid (EvMid w w3 n X G gs (j + 1)) := HM2.out.below hb
      clear hb HM2
      obtain ⟨v5, x5, f5⟩ := HM3.out.row.cell j 5 hlt (by omega)
      go_wp2
      go_roundw
      case rel =>
        refine ⟨j + 1, by omega, by go_num, ?_, HM3.out.put H0.out.1 j 5 (by omega) (by omega) _⟩
        show Value.int _ _ = Value.int _ _
        rw [show kEv X k (j + 1) = kEv X k j + 5 + (X j).secs.length from rfl, ← HK.out]
        congr 1; omega
      case measure => simp [intOf]; omega
    · obtain rfl : j = n := by omega
      have HF := hm.fr
      clear hm
      go_wp2
      go_ret
      exact ⟨rfl, HF⟩

end Go.Proofs.YtbgmgfnhmlpehabGreatDoor

/-
  Slices of Dones: what lies in memory; the contract of laws.eqDoneS. Mine, by template (wip/gen.py).
-/
namespace Go.Proofs.YtbgmgfnhmlpehabGreatDoor
open Go.RowKit

/-- Where a book's three lists begin. -/
structure Sl where
  ao : Option Addr
  co : Nat
  al : Option Addr
  cl : Nat
  ac : Option Addr
  cc : Nat

/-- The Done whose five cells lie at b, o. -/
structure DoneCells (w : World) (b o : Nat) (c : Int) (R : Bk) (s : Sl) : Prop where
  c0 : w.cell? ⟨b, o, none⟩ = some (.int .i64 c)
  c1 : w.cell? ⟨b, o + 1, none⟩ = some (.int .i64 R.n)
  c2 : w.cell? ⟨b, o + 2, none⟩ = some (.slice s.ao R.orders.length s.co)
  c3 : w.cell? ⟨b, o + 3, none⟩ = some (.slice s.al R.locked.length s.cl)
  c4 : w.cell? ⟨b, o + 4, none⟩ = some (.slice s.ac R.occ.length s.cc)
  at_ : BookAt w (.agg #[.int .i64 R.n, .slice s.ao R.orders.length s.co, .slice s.al R.locked.length s.cl, .slice s.ac R.occ.length s.cc]) R

theorem DoneCells.below {w w' : World} {b o : Nat} {c : Int} {R : Bk} {s : Sl} (h : DoneCells w b o c R s) (hb : Below w.heap.size w w') : DoneCells w' b o c R s := by
  have hl : b < w.heap.size := World.block_lt_of_cell? _ _ h.c0
  exact ⟨(hb.cell (p := ⟨b, o, none⟩) hl).trans h.c0, (hb.cell (p := ⟨b, o + 1, none⟩) hl).trans h.c1, (hb.cell (p := ⟨b, o + 2, none⟩) hl).trans h.c2, (hb.cell (p := ⟨b, o + 3, none⟩) hl).trans h.c3, (hb.cell (p := ⟨b, o + 4, none⟩) hl).trans h.c4, h.at_.below hb⟩

/-- n Dones from where a slice begins. -/
def DonesAt (w : World) (ad : Option Addr) (n : Nat) (C : Nat → Int) (R : Nat → Bk) : Prop :=
  ∃ b o, (0 < n → ad = some ⟨b, o, none⟩) ∧ ∀ i, i < n → ∃ s, DoneCells w b (o + i * 5) (C i) (R i) s

theorem DonesAt.below {w w' : World} {ad : Option Addr} {n : Nat} {C : Nat → Int} {R : Nat → Bk} (h : DonesAt w ad n C R) (hb : Below w.heap.size w w') : DonesAt w' ad n C R := by
  obtain ⟨b, o, h1, h2⟩ := h
  exact ⟨b, o, h1, fun i hi => by obtain ⟨s, h3⟩ := h2 i hi; exact ⟨s, h3.below hb⟩⟩

/-- A book small enough to be held against another. -/
structure EqSmall (B : Bk) : Prop where
  o : B.orders.length ≤ 1048576
  s : ∀ i, i < B.orders.length → (B.orders.getD i Ord.zero).secs.length ≤ 4294967296
  l : B.locked.length ≤ 4294967296
  c : B.occ.length ≤ 4294967296

theorem eqSmall_tiny {B : Bk} (h : Tiny B) : EqSmall B :=
  ⟨Nat.le_trans h.o (by decide), fun i hi => Nat.le_trans (h.s i hi) (by decide), Nat.le_trans h.l (by decide), Nat.le_trans h.c (by decide)⟩

set_option maxHeartbeats 1000000 in
theorem eqDoneS_same (a1 a2 : Option Addr) (c1 c2 n : Nat) (C : Nat → Int) (R : Nat → Bk) (w : World) (hn : n ≤ 1048576) (hs : ∀ i, i < n → EqSmall (R i)) (G1 : DonesAt w a1 n C R) (G2 : DonesAt w a2 n C R) :
    Calls Tryz.prog 23 #[.slice a1 n c1, .slice a2 n c2] w fun e w' => e = .returned (.bool true) ∧ Below w.heap.size w w' := by
  obtain ⟨b1, o1, h1, g1⟩ := G1
  obtain ⟨b2, o2, h2, g2⟩ := G2
  go_enter Tryz.func23, Tryz.ntmps23
  go_wp2
  go_loopw [5] (fun i wr => ∃ k : Nat, k ≤ n ∧ i = .int .i64 k ∧ Below w.heap.size w wr) (fun i _ => n - (intOf i).toNat)
  case atStart => exact ⟨0, Nat.zero_le _, rfl, Below.refl _ _⟩
  case round =>
    obtain ⟨k, hk, rfl, hb⟩ := hrel
    by_cases hlt : k < n
    · obtain rfl := h1 (by omega)
      obtain rfl := h2 (by omega)
      obtain ⟨s1, q1⟩ := g1 k hlt
      obtain ⟨s2, q2⟩ := g2 k hlt
      have hsk := hs k hlt
      clear g1 g2 h1 h2 hs
      have r1 := q1.below hb
      have r2 := q2.below hb
      clear q1 q2
      have l1 : b1 < wr.heap.size := World.block_lt_of_cell? _ _ r1.c0
      have l2 : b2 < wr.heap.size := World.block_lt_of_cell? _ _ r2.c0
      have HX : Hid (_ ∧ _) := ⟨r1.at_, r2.at_⟩
      obtain ⟨x0, x1, x2, x3, x4, -⟩ := r1
      obtain ⟨y0, y1, y2, y3, y4, -⟩ := r2
      have hz : (0 : Int) ≤ (k : Int) := by omega
      have hlz : (k : Int) < (n : Int) := by omega
      go_wp2
      go_region_held3 (fun w' => w'.cell? ⟨b1, o1 + k * 5, none⟩ = some (.int .i64 (C k)) ∧ w'.cell? ⟨b1, o1 + k * 5 + 1, none⟩ = some (.int .i64 (R k).n) ∧ w'.cell? ⟨b1, o1 + k * 5 + 2, none⟩ = some (.slice s1.ao (R k).orders.length s1.co) ∧ w'.cell? ⟨b1, o1 + k * 5 + 3, none⟩ = some (.slice s1.al (R k).locked.length s1.cl) ∧ w'.cell? ⟨b1, o1 + k * 5 + 4, none⟩ = some (.slice s1.ac (R k).occ.length s1.cc) ∧ w'.cell? ⟨b2, o2 + k * 5, none⟩ = some (.int .i64 (C k)) ∧ w'.cell? ⟨b2, o2 + k * 5 + 1, none⟩ = some (.int .i64 (R k).n) ∧ w'.cell? ⟨b2, o2 + k * 5 + 2, none⟩ = some (.slice s2.ao (R k).orders.length s2.co) ∧ w'.cell? ⟨b2, o2 + k * 5 + 3, none⟩ = some (.slice s2.al (R k).locked.length s2.cl) ∧ w'.cell? ⟨b2, o2 + k * 5 + 4, none⟩ = some (.slice s2.ac (R k).occ.length s2.cc)) (first | go_keep | skip)
        (first | (go_at_call 12; refine (eqDone_same _ _ _ _ _ _ _ _ _ (R k) _ hsk.o hsk.s hsk.l hsk.c (HX.out.1.below ((Below.refl _ _).drew)) (HX.out.2.below ((Below.refl _ _).drew))).mono ?_; rintro e w1 ⟨rfl, hb1⟩; have hb2 : Below w.heap.size w w1 := below_trans hb hb.size (show Below wr.heap.size wr w1 from (Below.refl _ _).drew.trans hb1); obtain ⟨hc1, hf1⟩ := bcell (show Below wr.heap.size wr w1 from (Below.refl _ _).drew.trans hb1); clear hf1))
      clear hc1 hb1
      go_wp2
      go_roundw
      case rel => exact ⟨k + 1, by omega, by go_num, hb2⟩
      case measure => simp [intOf]; omega
    · clear g1 g2 h1 h2 hs
      go_wp2
      go_ret
      exact ⟨rfl, hb⟩

end Go.Proofs.YtbgmgfnhmlpehabGreatDoor

/-
  A book's three lists marked one behind the other; a slice of Dones that owns its memory. Mine, by template (wip/gen.py).
-/
namespace Go.Proofs.YtbgmgfnhmlpehabGreatDoor
open Go.RowKit

theorem mBk_blocks {B : Bk} {K : Blk} {k : Nat} {x : Nat} (h : bookBlocks (mBk B k) K x) : bookBlocks B K x := by
  have len1 : (mBk B k).orders.length = B.orders.length := by simp [mBk]
  have len2 : (mBk B k).locked.length = B.locked.length := by simp [mBk]
  have len3 : (mBk B k).occ.length = B.occ.length := by simp [mBk]
  unfold bookBlocks at h
  rw [len1, len2, len3] at h
  rcases h with (h | ⟨i, hi, hp, e⟩) | h
  · exact Or.inl (Or.inl h)
  · refine Or.inl (Or.inr ⟨i, hi, ?_, e⟩)
    have : bX (mBk B k) i = mX (bX B) k B.orders.length i := getD_range_map _ _ _ _ hi
    rw [this, mX_len] at hp
    exact hp
  · exact Or.inr h

theorem mark3 {w w1 w2 w3 : World} {lo : Nat} {ao : Option Addr} {co : Nat} {al : Option Addr} {cl : Nat} {ac : Option Addr} {cc : Nat} {B : Bk} {K : Blk} {k k1 : Nat} (h : OwnBook w lo (.agg #[.int .i64 B.n, .slice ao B.orders.length co, .slice al B.locked.length cl, .slice ac B.occ.length cc]) B K) (hkk1 : k1 = bK B k)
    (o1 : OwnOrds w1 lo ao B.orders.length (mX (bX B) k B.orders.length) K.G K.gs K.sa K.sc) (f1 : Fr (ordBlocks B.orders.length (bX B) K.G K.gs) w w1)
    (u2 : 0 < B.locked.length → Pre w2 K.L 4 B.locked.length (fun (i : Nat) => .bool (mb ((k1 : Int) + (i : Int))))) (f2 : Fr (fun b => 0 < B.locked.length ∧ b = K.L) w1 w2)
    (u3 : 0 < B.occ.length → Pre w3 K.C 4 B.occ.length (fun (i : Nat) => .bool (mb (((k1 + B.locked.length : Nat) : Int) + (i : Int))))) (f3 : Fr (fun b => 0 < B.occ.length ∧ b = K.C) w2 w3) :
    OwnBook w3 lo (.agg #[.int .i64 B.n, .slice ao B.orders.length co, .slice al B.locked.length cl, .slice ac B.occ.length cc]) (mBk B k) K ∧ Fr (bookBlocks B K) w w3 := by
  obtain ⟨⟨ao', co', al', cl', ac', cc', e, p1, p2, p3⟩, q1, q2, q3, q4, q5⟩ := h
  simp only [Value.agg.injEq, Array.mk.injEq, List.cons.injEq, Value.slice.injEq, and_true, true_and] at e
  obtain ⟨⟨rfl, rfl⟩, ⟨rfl, rfl⟩, rfl, rfl⟩ := e
  have o2 : OwnOrds w2 lo ao B.orders.length (mX (bX B) k B.orders.length) K.G K.gs K.sa K.sc := o1.fr f2 (fun b hb hs => by
    rcases hb with ⟨hp, e⟩ | ⟨i, hi, hp, e⟩
    · exact q1 hp hs.1 (by rw [← e]; exact hs.2.symm)
    · rw [mX_len] at hp; exact q4 hs.1 i hi hp (by rw [← e]; exact hs.2))
  have o3 : OwnOrds w3 lo ao B.orders.length (mX (bX B) k B.orders.length) K.G K.gs K.sa K.sc := o2.fr f3 (fun b hb hs => by
    rcases hb with ⟨hp, e⟩ | ⟨i, hi, hp, e⟩
    · exact q2 hp hs.1 (by rw [← e]; exact hs.2.symm)
    · rw [mX_len] at hp; exact q5 hs.1 i hi hp (by rw [← e]; exact hs.2))
  have len1 : (mBk B k).orders.length = B.orders.length := by simp [mBk]
  have len2 : (mBk B k).locked.length = B.locked.length := by simp [mBk]
  have len3 : (mBk B k).occ.length = B.occ.length := by simp [mBk]
  have secl : ∀ i, i < B.orders.length → ((mBk B k).orders.getD i Ord.zero).secs.length = (bX B i).secs.length := fun i hi => by
    have : (mBk B k).orders.getD i Ord.zero = mX (bX B) k B.orders.length i := getD_range_map _ _ _ _ hi
    rw [this, mX_len]
  refine ⟨⟨⟨ao, co, al, cl, ac, cc, ?_, ?_, ?_, ?_⟩, ?_, ?_, ?_, ?_, ?_⟩, ?_⟩
  · rw [len1, len2, len3]; rfl
  · rw [len1]; exact o3.congr (fun i hi => (getD_range_map _ _ _ _ hi).symm)
  · rw [len2]
    refine ⟨p2.head, fun hp => (f3.row (u2 hp) (fun hs => q3 hp hs.1 hs.2)).congr (fun i hi => ?_), p2.low⟩
    rw [show (mBk B k).locked.getD i false = mb ((bK B k : Int) + i) from getD_range_map _ _ _ _ hi, ← hkk1]
  · rw [len3]
    refine ⟨p3.head, fun hp => (u3 hp).congr (fun i hi => ?_), p3.low⟩
    rw [show (mBk B k).occ.getD i false = mb (((bK B k + B.locked.length : Nat) : Int) + i) from getD_range_map _ _ _ _ hi, ← hkk1]
  · rw [len1, len2]; exact q1
  · rw [len1, len3]; exact q2
  · rw [len2, len3]; exact q3
  · rw [len1, len2]; exact fun hp i hi hs => q4 hp i hi (by rw [secl i hi] at hs; exact hs)
  · rw [len1, len3]; exact fun hp i hi hs => q5 hp i hi (by rw [secl i hi] at hs; exact hs)
  · exact ((f1.mono (fun b hb => Or.inl hb)).trans (f2.mono (fun b hb => Or.inr (Or.inl hb)))).trans (f3.mono (fun b hb => Or.inr (Or.inr hb)))

/-- A book's value out of where its lists begin. -/
def bookV (R : Bk) (s : Sl) : Value := .agg #[.int .i64 R.n, .slice s.ao R.orders.length s.co, .slice s.al R.locked.length s.cl, .slice s.ac R.occ.length s.cc]

def doneCell (c : Int) (R : Bk) (s : Sl) : Nat → Value
  | 0 => .int .i64 c
  | 1 => .int .i64 R.n
  | 2 => .slice s.ao R.orders.length s.co
  | 3 => .slice s.al R.locked.length s.cl
  | _ => .slice s.ac R.occ.length s.cc
def doneCells (C : Nat → Int) (R : Nat → Bk) (s : Nat → Sl) (j : Nat) : Value := doneCell (C (j / 5)) (R (j / 5)) (s (j / 5)) (j % 5)

/-- n Dones in block G, each one's book its own, no two books in one block. -/
structure OwnDones (w : World) (lo n : Nat) (C : Nat → Int) (R : Nat → Bk) (G : Nat) (s : Nat → Sl) (K : Nat → Blk) : Prop where
  row : 0 < n → Pre w G 35 (n * 5) (doneCells C R s)
  low : 0 < n → lo ≤ G
  own : ∀ i, i < n → OwnBook w lo (bookV (R i) (s i)) (R i) (K i)
  dis : ∀ i, i < n → ∀ x, bookBlocks (R i) (K i) x → x ≠ G
  apart : ∀ i j, i < n → j < n → i ≠ j → ∀ x, bookBlocks (R i) (K i) x → ¬ bookBlocks (R j) (K j) x

/-- The blocks that it owns. -/
def doneBlocks (n : Nat) (R : Nat → Bk) (G : Nat) (K : Nat → Blk) (x : Nat) : Prop := (0 < n ∧ x = G) ∨ ∃ i, i < n ∧ bookBlocks (R i) (K i) x

theorem OwnDones.fr {w w' : World} {lo n : Nat} {C : Nat → Int} {R : Nat → Bk} {G : Nat} {s : Nat → Sl} {K : Nat → Blk} (h : OwnDones w lo n C R G s K) {S : Nat → Prop} (hf : Fr S w w') (hs : ∀ x, doneBlocks n R G K x → ¬ S x) : OwnDones w' lo n C R G s K :=
  ⟨fun hp => hf.row (h.row hp) (hs _ (Or.inl ⟨hp, rfl⟩)), h.low, fun i hi => (h.own i hi).fr hf (fun b hb => hs b (Or.inr ⟨i, hi, hb⟩)), h.dis, h.apart⟩
theorem OwnDones.below {w w' : World} {lo n : Nat} {C : Nat → Int} {R : Nat → Bk} {G : Nat} {s : Nat → Sl} {K : Nat → Blk} (h : OwnDones w lo n C R G s K) (hb : Below w.heap.size w w') : OwnDones w' lo n C R G s K :=
  h.fr (S := fun _ => False) (Fr.of_below hb) (fun _ _ h => h)
theorem OwnDones.blocks {w : World} {lo n : Nat} {C : Nat → Int} {R : Nat → Bk} {G : Nat} {s : Nat → Sl} {K : Nat → Blk} (h : OwnDones w lo n C R G s K) {x : Nat} (hx : doneBlocks n R G K x) : lo ≤ x ∧ x < w.heap.size := by
  rcases hx with ⟨hp, rfl⟩ | ⟨i, hi, hb⟩
  · exact ⟨h.low hp, (h.row hp).lt⟩
  · exact ⟨(h.own i hi).blocks_low hb, (h.own i hi).blocks_lt hb⟩

theorem OwnDones.cells {w : World} {lo n : Nat} {C : Nat → Int} {R : Nat → Bk} {G : Nat} {s : Nat → Sl} {K : Nat → Blk} (h : OwnDones w lo n C R G s K) {i : Nat} (hi : i < n) : DoneCells w G (i * 5) (C i) (R i) (s i) := by
  have hr := h.row (by omega)
  have d : ∀ r, r < 5 → (i * 5 + r) / 5 = i ∧ (i * 5 + r) % 5 = r := fun r hr => by omega
  have c : ∀ r, r < 5 → w.cell? ⟨G, i * 5 + r, none⟩ = some (doneCell (C i) (R i) (s i) r) := fun r hr' => by
    rw [hr.cell (i := i * 5 + r) (by omega)]
    unfold doneCells
    rw [(d r hr').1, (d r hr').2]
  exact ⟨c 0 (by omega), c 1 (by omega), c 2 (by omega), c 3 (by omega), c 4 (by omega), (h.own i hi).bookAt⟩

theorem OwnDones.at_ {w : World} {lo n : Nat} {C : Nat → Int} {R : Nat → Bk} {G : Nat} {s : Nat → Sl} {K : Nat → Blk} (h : OwnDones w lo n C R G s K) : DonesAt w (some ⟨G, 0, none⟩) n C R :=
  ⟨G, 0, fun _ => rfl, fun i hi => ⟨s i, by rw [Nat.zero_add]; exact h.cells hi⟩⟩

end Go.Proofs.YtbgmgfnhmlpehabGreatDoor

/-
  The contract of laws.markDoneS. Mine, by template (wip/gen.py).
-/
namespace Go.Proofs.YtbgmgfnhmlpehabGreatDoor
open Go.RowKit

/-- The number behind j Dones. -/
def kD (R : Nat → Bk) (k : Nat) : Nat → Nat
  | 0 => k
  | j + 1 => bEnd (R j) (kD R k j + 2)

theorem bK_le (B : Bk) (k : Nat) : k ≤ bK B k := kAt_mono (bX B) k (i := 0) (j := B.orders.length) (by omega)
theorem kD_mono (R : Nat → Bk) (k : Nat) {i j : Nat} (h : i ≤ j) : kD R k i ≤ kD R k j := by
  induction j with
  | zero => obtain rfl : i = 0 := by omega
            exact Nat.le_refl _
  | succ j ih =>
    by_cases e : i = j + 1
    · subst e; exact Nat.le_refl _
    · have h1 := ih (by omega)
      have h2 := bK_le (R j) (kD R k j + 2)
      simp only [kD, bEnd]; omega

structure DRowF (f : Nat → Value) (n : Nat) (R : Nat → Bk) (s : Nat → Sl) (k j : Nat) : Prop where
  m0 : ∀ i, i < j → f (i * 5) = .int .i64 (kD R k i)
  m1 : ∀ i, i < j → f (i * 5 + 1) = .int .i64 ((kD R k i : Int) + 1)
  s2 : ∀ i, i < n → f (i * 5 + 2) = .slice (s i).ao (R i).orders.length (s i).co
  s3 : ∀ i, i < n → f (i * 5 + 3) = .slice (s i).al (R i).locked.length (s i).cl
  s4 : ∀ i, i < n → f (i * 5 + 4) = .slice (s i).ac (R i).occ.length (s i).cc

/-- The row of n Dones, of which the first j have their marks. -/
def DRow (w : World) (G n : Nat) (R : Nat → Bk) (s : Nat → Sl) (k j : Nat) : Prop := ∃ f, Pre w G 35 (n * 5) f ∧ DRowF f n R s k j

theorem DRow.of_block {w w' : World} {G n : Nat} {R : Nat → Bk} {s : Nat → Sl} {k j : Nat} (h : DRow w G n R s k j) (e : w'.heap[G]? = w.heap[G]?) : DRow w' G n R s k j := by
  obtain ⟨f, h1, h2⟩ := h
  exact ⟨f, h1.of_block e, h2⟩
theorem DRow.lt {w : World} {G n : Nat} {R : Nat → Bk} {s : Nat → Sl} {k j : Nat} (h : DRow w G n R s k j) : G < w.heap.size := by
  obtain ⟨f, h1, h2⟩ := h
  exact h1.lt
theorem DRow.cell {w : World} {G n : Nat} {R : Nat → Bk} {s : Nat → Sl} {k j : Nat} (h : DRow w G n R s k j) (i r : Nat) (hi : i < n) (hr : r < 5) : ∃ v, w.cell? ⟨G, i * 5 + r, none⟩ = some v ∧ w.frozen? ⟨G, i * 5 + r, none⟩ = false := by
  obtain ⟨f, h1, h2⟩ := h
  exact ⟨_, h1.cell (i := i * 5 + r) (by omega), h1.frozen _⟩
theorem DRow.sl {w : World} {G n : Nat} {R : Nat → Bk} {s : Nat → Sl} {k j : Nat} (h : DRow w G n R s k j) {i : Nat} (hi : i < n) : w.cell? ⟨G, i * 5 + 2, none⟩ = some (.slice (s i).ao (R i).orders.length (s i).co) ∧ w.cell? ⟨G, i * 5 + 3, none⟩ = some (.slice (s i).al (R i).locked.length (s i).cl) ∧ w.cell? ⟨G, i * 5 + 4, none⟩ = some (.slice (s i).ac (R i).occ.length (s i).cc) := by
  obtain ⟨f, h1, h2⟩ := h
  exact ⟨by rw [h1.cell (i := i * 5 + 2) (by omega), h2.s2 i hi], by rw [h1.cell (i := i * 5 + 3) (by omega), h2.s3 i hi], by rw [h1.cell (i := i * 5 + 4) (by omega), h2.s4 i hi]⟩
theorem DRow.mk {w : World} {G n : Nat} {R : Nat → Bk} {s : Nat → Sl} {k j : Nat} (h : DRow w G n R s k j) {i : Nat} (hi : i < j) (hn : i < n) : w.cell? ⟨G, i * 5, none⟩ = some (.int .i64 (kD R k i)) ∧ w.cell? ⟨G, i * 5 + 1, none⟩ = some (.int .i64 ((kD R k i : Int) + 1)) := by
  obtain ⟨f, h1, h2⟩ := h
  exact ⟨by rw [h1.cell (i := i * 5) (by omega), h2.m0 i hi], by rw [h1.cell (i := i * 5 + 1) (by omega), h2.m1 i hi]⟩
theorem DRow.put {w : World} {G n : Nat} {R : Nat → Bk} {s : Nat → Sl} {k j : Nat} (h : DRow w G n R s k j) : DRow ((w.setCell ⟨G, j * 5, none⟩ (.int .i64 (kD R k j))).setCell ⟨G, j * 5 + 1, none⟩ (.int .i64 ((kD R k j : Int) + 1))) G n R s k (j + 1) := by
  obtain ⟨f, h1, h2⟩ := h
  refine ⟨_, (h1.set (j * 5) _).set (j * 5 + 1) _, ⟨fun i hi => ?_, fun i hi => ?_, fun i hi => ?_, fun i hi => ?_, fun i hi => ?_⟩⟩
  · rw [if_neg (by omega)]
    by_cases e : i = j
    · subst e; rw [if_pos rfl]
    · rw [if_neg (by omega)]; exact h2.m0 i (by omega)
  · by_cases e : i = j
    · subst e; rw [if_pos rfl]
    · rw [if_neg (by omega), if_neg (by omega)]; exact h2.m1 i (by omega)
  · rw [if_neg (by omega), if_neg (by omega)]; exact h2.s2 i hi
  · rw [if_neg (by omega), if_neg (by omega)]; exact h2.s3 i hi
  · rw [if_neg (by omega), if_neg (by omega)]; exact h2.s4 i hi

/-- Book i when the first j are marked. -/
def mAt (R : Nat → Bk) (k j i : Nat) : Bk := if i < j then mBk (R i) (kD R k i + 2) else R i
theorem mAt_blocks {R : Nat → Bk} {k j i : Nat} {K : Blk} {x : Nat} (h : bookBlocks (mAt R k j i) K x) : bookBlocks (R i) K x := by
  unfold mAt at h
  split at h
  · exact mBk_blocks h
  · exact h

theorem own_parts {w : World} {lo : Nat} {B : Bk} {s : Sl} {K : Blk} (h : OwnBook w lo (bookV B s) B K) : OwnOrds w lo s.ao B.orders.length (bX B) K.G K.gs K.sa K.sc ∧ OwnBools w lo s.al B.locked.length (fun i => B.locked.getD i false) K.L ∧ OwnBools w lo s.ac B.occ.length (fun i => B.occ.getD i false) K.C := by
  obtain ⟨ao', co', al', cl', ac', cc', e, p1, p2, p3⟩ := h.shape
  unfold bookV at e
  simp only [Value.agg.injEq, Array.mk.injEq, List.cons.injEq, Value.slice.injEq, and_true, true_and] at e
  obtain ⟨⟨e1, -⟩, ⟨e2, -⟩, e3, -⟩ := e
  rw [e1, e2, e3]
  exact ⟨p1, p2, p3⟩

theorem fr_one {a w : World} {P i : Nat} {u : Value} (h : Fr (fun x => x = P) a w) : Fr (fun x => x = P) a (w.setCell ⟨P, i, none⟩ u) := h.setCell (p := ⟨P, i, none⟩) rfl u

structure DMid (w wr : World) (lo n : Nat) (R : Nat → Bk) (G : Nat) (s : Nat → Sl) (K : Nat → Blk) (k j : Nat) : Prop where
  row : DRow wr G n R s k j
  own : ∀ i, i < n → OwnBook wr lo (bookV (R i) (s i)) (mAt R k j i) (K i)
  fr : Fr (doneBlocks n R G K) w wr

set_option maxHeartbeats 4000000 in
theorem markDoneS_any (c n : Nat) (C : Nat → Int) (R : Nat → Bk) (k lo G : Nat) (s : Nat → Sl) (K : Nat → Blk) (w : World) (ad : Option Addr) (had : 0 < n → ad = some ⟨G, 0, none⟩) (hk : kD R k n ≤ 2305843009213693952) (hn : n ≤ 1048576) (ho : ∀ i, i < n → (R i).orders.length ≤ 1048576) (h : OwnDones w lo n C R G s K) :
    Calls Tryz.prog 26 #[.slice ad n c, .int .i64 k] w fun e w' => e = .returned (.int .i64 (kD R k n)) ∧ (0 < n → DRow w' G n R s k n) ∧ (∀ i, i < n → BookAt w' (bookV (R i) (s i)) (mBk (R i) (kD R k i + 2))) ∧ Fr (doneBlocks n R G K) w w' := by
  have H0 : Hid ((∀ i, i < n → ∀ x, bookBlocks (R i) (K i) x → x ≠ G) ∧ (∀ i j, i < n → j < n → i ≠ j → ∀ x, bookBlocks (R i) (K i) x → ¬ bookBlocks (R j) (K j) x) ∧ kD R k n ≤ 2305843009213693952) := ⟨h.dis, h.apart, hk⟩
  have M0 : Hid (0 < n → DMid w w lo n R G s K k 0) := fun hp => ⟨⟨_, h.row hp, ⟨fun i hi => absurd hi (by omega), fun i hi => absurd hi (by omega), fun i hi => by unfold doneCells; rw [show (i * 5 + 2) / 5 = i by omega, show (i * 5 + 2) % 5 = 2 by omega]; rfl, fun i hi => by unfold doneCells; rw [show (i * 5 + 3) / 5 = i by omega, show (i * 5 + 3) % 5 = 3 by omega]; rfl, fun i hi => by unfold doneCells; rw [show (i * 5 + 4) / 5 = i by omega, show (i * 5 + 4) % 5 = 4 by omega]; rfl⟩⟩, fun i hi => by unfold mAt; rw [if_neg (by omega)]; exact h.own i hi, Fr.refl _ _⟩
  clear h hk
  go_enter Tryz.func26, Tryz.ntmps26
  go_wp2
  go_loopw [1, 5] (fun q i wr => ∃ j : Nat, j ≤ n ∧ i = .int .i64 j ∧ q = .int .i64 (kD R k j) ∧ (0 < n → DMid w wr lo n R G s K k j) ∧ Fr (doneBlocks n R G K) w wr) (fun _ i _ => n - (intOf i).toNat)
  case atStart => exact ⟨0, Nat.zero_le _, rfl, rfl, M0.out, Fr.refl _ _⟩
  case round =>
    obtain ⟨j, hj, rfl, rfl, hm, hfr⟩ := hrel
    clear M0
    by_cases hlt : j < n
    · obtain rfl := had (by omega)
      obtain ⟨kj, hkj⟩ : ∃ kj, kj = kD R k j := ⟨_, rfl⟩
      have hkn : bK (R j) (kj + 2) + (R j).locked.length + (R j).occ.length ≤ 2305843009213693952 := by
        have h1 := kD_mono R k (i := j + 1) (j := n) (by omega)
        have h2 := H0.out.2.2
        simp only [kD, bEnd] at h1
        rw [hkj]; omega
      have hk2 : kj + 2 ≤ 2305843009213693952 := by have := bK_le (R j) (kj + 2); omega
      rw [← hkj]
      have HK : Hid (kj = kD R k j) := hkj
      have HM : Hid (DMid w wr lo n R G s K k j) := hm (by omega)
      have hoj := ho j hlt
      clear hkj hm hfr had ho
      obtain ⟨v0, x0, f0⟩ := HM.out.row.cell j 0 hlt (by omega)
      obtain ⟨v1, x1, f1⟩ := HM.out.row.cell j 1 hlt (by omega)
      obtain ⟨x2, -, -⟩ := HM.out.row.sl hlt
      rw [Nat.add_zero] at x0 f0
      go_wp2_with fail
      have HM2 : Hid (DRow ((wr.setCell ⟨G, j * 5, none⟩ (.int .i64 (kj : Int))).setCell ⟨G, j * 5 + 1, none⟩ (.int .i64 ((kj : Int) + 1))) G n R s k (j + 1) ∧ (∀ i, i < n → OwnBook ((wr.setCell ⟨G, j * 5, none⟩ (.int .i64 (kj : Int))).setCell ⟨G, j * 5 + 1, none⟩ (.int .i64 ((kj : Int) + 1))) lo (bookV (R i) (s i)) (mAt R k j i) (K i)) ∧ Fr (doneBlocks n R G K) w ((wr.setCell ⟨G, j * 5, none⟩ (.int .i64 (kj : Int))).setCell ⟨G, j * 5 + 1, none⟩ (.int .i64 ((kj : Int) + 1)))) := by
        refine ⟨by have := HM.out.row.put; rw [← HK.out] at this; exact this, fun i hi => (HM.out.own i hi).fr (S := fun x => x = G) (fr_one (fr_one (Fr.refl _ _))) (fun b hb => H0.out.1 i hi b (mAt_blocks hb)), (HM.out.fr.setCell (p := ⟨G, j * 5, none⟩) (Or.inl ⟨by omega, rfl⟩) _).setCell (p := ⟨G, j * 5 + 1, none⟩) (Or.inl ⟨by omega, rfl⟩) _⟩
      have hoj2 : OwnBook ((wr.setCell ⟨G, j * 5, none⟩ (.int .i64 (kj : Int))).setCell ⟨G, j * 5 + 1, none⟩ (.int .i64 ((kj : Int) + 1))) lo (bookV (R j) (s j)) (R j) (K j) := by
        have := HM2.out.2.1 j hlt
        unfold mAt at this
        rw [if_neg (by omega)] at this
        exact this
      obtain ⟨p1, p2, p3⟩ := own_parts hoj2
      have HQ : Hid (OwnBook ((wr.setCell ⟨G, j * 5, none⟩ (.int .i64 (kj : Int))).setCell ⟨G, j * 5 + 1, none⟩ (.int .i64 ((kj : Int) + 1))) lo (bookV (R j) (s j)) (R j) (K j)) := hoj2
      have ng : ∀ x, ordBlocks (R j).orders.length (bX (R j)) (K j).G (K j).gs x → x ≠ G := fun x hx => H0.out.1 j hlt x (Or.inl hx)
      clear x0 x1 x2 f0 f1 HM hoj2
      have e2 : (kj : Int) + 1 + 1 = ((kj + 2 : Nat) : Int) := by omega
      rw [e2]
      obtain ⟨k1, hk1⟩ : ∃ k1, k1 = bK (R j) (kj + 2) := ⟨_, rfl⟩
      rw [← hk1] at hkn
      refine (markOrderS_any (s j).ao (s j).co (R j).orders.length (bX (R j)) (kj + 2) lo (K j).G (K j).gs (K j).sa (K j).sc _ (by omega) (by have e : kAt (bX (R j)) (kj + 2) (R j).orders.length = k1 := hk1.symm; rw [e]; omega) hoj p1).mono ?_
      rintro e w1 ⟨rfl, o1, g1⟩
      rw [show kAt (bX (R j)) (kj + 2) (R j).orders.length = k1 from hk1.symm]
      have HK1 : Hid (k1 = bK (R j) (kj + 2)) := hk1
      have r1 : DRow w1 G n R s k (j + 1) := HM2.out.1.of_block (g1.block _ HM2.out.1.lt (fun hx => ng _ hx rfl))
      obtain ⟨-, x3, -⟩ := r1.sl hlt
      have p2' := p2.fr g1 (fun hp hb => by
        rcases hb with ⟨hp', e⟩ | ⟨i, hi, hp', e⟩
        · exact HQ.out.lg hp' hp e
        · exact HQ.out.ls hp i hi hp' e.symm)
      have p3' := p3.fr g1 (fun hp hb => by
        rcases hb with ⟨hp', e⟩ | ⟨i, hi, hp', e⟩
        · exact HQ.out.cg hp' hp e
        · exact HQ.out.cs hp i hi hp' e.symm)
      have H1 : Hid (DRow w1 G n R s k (j + 1) ∧ OwnOrds w1 lo (s j).ao (R j).orders.length (mX (bX (R j)) (kj + 2) (R j).orders.length) (K j).G (K j).gs (K j).sa (K j).sc ∧ Fr (ordBlocks (R j).orders.length (bX (R j)) (K j).G (K j).gs) ((wr.setCell ⟨G, j * 5, none⟩ (.int .i64 (kj : Int))).setCell ⟨G, j * 5 + 1, none⟩ (.int .i64 ((kj : Int) + 1))) w1) := ⟨r1, o1, g1⟩
      clear r1 o1 g1 p1 p2 p3 hk1 ng
      go_wp2_with fail
      refine (markBoolS_any (s j).al (s j).cl (R j).locked.length (K j).L (fun i => .bool ((R j).locked.getD i false)) k1 _ (by omega) (by omega) p2'.head p2'.row).mono ?_
      rintro e w2 ⟨rfl, u2, g2⟩
      have r2 : DRow w2 G n R s k (j + 1) := H1.out.1.of_block (g2.block _ H1.out.1.lt (fun hx => H0.out.1 j hlt _ (Or.inr (Or.inl ⟨hx.1, rfl⟩)) hx.2.symm))
      obtain ⟨-, -, x4⟩ := r2.sl hlt
      have p3'' := p3'.fr g2 (fun hp hb => HQ.out.lc hb.1 hp hb.2.symm)
      have H2 : Hid (_ ∧ _ ∧ _) := ⟨r2, u2, g2⟩
      clear r2 u2 g2 p2' p3' x3
      go_wp2_with fail
      refine (markBoolS_any (s j).ac (s j).cc (R j).occ.length (K j).C (fun i => .bool ((R j).occ.getD i false)) ((k1 : Int) + (R j).locked.length) _ (by omega) (by omega) p3''.head p3''.row).mono ?_
      rintro e w3 ⟨rfl, u3, g3⟩
      have H3 : Hid (OwnBook w3 lo (bookV (R j) (s j)) (mBk (R j) (kj + 2)) (K j) ∧ Fr (bookBlocks (R j) (K j)) ((wr.setCell ⟨G, j * 5, none⟩ (.int .i64 (kj : Int))).setCell ⟨G, j * 5 + 1, none⟩ (.int .i64 ((kj : Int) + 1))) w3) :=
        mark3 HQ.out HK1.out H1.out.2.1 H1.out.2.2 H2.out.2.1 H2.out.2.2 (fun hp => (u3 hp).congr (fun i _ => by rw [Int.natCast_add])) g3
      clear u3 g3 p3'' x4
      go_wp2
      go_roundw
      case rel =>
        have hfr : Fr (doneBlocks n R G K) w w3 := HM2.out.2.2.trans (H3.out.2.mono (fun x hx => Or.inr ⟨j, hlt, hx⟩))
        refine ⟨j + 1, by omega, by go_num, ?_, fun _ => ⟨HM2.out.1.of_block (H3.out.2.block _ HM2.out.1.lt (fun hx => H0.out.1 j hlt _ hx rfl)), fun i hi => ?_, hfr⟩, hfr⟩
        · show Value.int _ _ = Value.int _ _
          rw [show kD R k (j + 1) = bK (R j) (kD R k j + 2) + (R j).locked.length + (R j).occ.length from rfl, ← HK.out, ← HK1.out]
          congr 1
        · by_cases e : i = j
          · subst e
            unfold mAt
            rw [if_pos (by omega), ← HK.out]
            exact H3.out.1
          · have e' : mAt R k (j + 1) i = mAt R k j i := by
              unfold mAt
              by_cases q : i < j
              · rw [if_pos q, if_pos (by omega)]
              · rw [if_neg q, if_neg (by omega)]
            rw [e']
            exact (HM2.out.2.1 i hi).fr H3.out.2 (fun b hb => H0.out.2.1 i j hi hlt e b (mAt_blocks hb))
      case measure => simp [intOf]; omega
    · obtain rfl : j = n := by omega
      have HF : Hid ((0 < j → DMid w wr lo j R G s K k j) ∧ Fr (doneBlocks j R G K) w wr) := ⟨hm, hfr⟩
      clear hm hfr had
      go_wp2
      go_ret
      refine ⟨rfl, fun hp => (HF.out.1 hp).row, fun i hi => ?_, HF.out.2⟩
      have := (HF.out.1 (by omega)).own i hi
      unfold mAt at this
      rw [if_pos hi] at this
      exact this.bookAt

end Go.Proofs.YtbgmgfnhmlpehabGreatDoor

/-
  The contract of laws.heldDoneS. Mine, by template (wip/gen.py).
-/
namespace Go.Proofs.YtbgmgfnhmlpehabGreatDoor
open Go.RowKit

theorem held_parts {w : World} {B : Bk} {s : Sl} {k : Nat} (h : BookAt w (bookV B s) (mBk B k)) :
    (∃ b o, (0 < B.orders.length → s.ao = some ⟨b, o, none⟩) ∧ ∀ i, i < B.orders.length → ∃ sa sc, OrdAt w b (o + i * 4) (mOrd (kAt (bX B) k i) (bX B i)) sa sc) ∧
    Cells w s.al B.locked.length (fun (i : Nat) => .bool (mb ((bK B k : Int) + (i : Int)))) ∧ Cells w s.ac B.occ.length (fun (i : Nat) => .bool (mb ((bK B k : Int) + (B.locked.length : Int) + (i : Int)))) := by
  obtain ⟨ao, co, al, cl, ac, cc, e, p1, p2, p3⟩ := h
  have len1 : (mBk B k).orders.length = B.orders.length := by simp [mBk]
  have len2 : (mBk B k).locked.length = B.locked.length := by simp [mBk]
  have len3 : (mBk B k).occ.length = B.occ.length := by simp [mBk]
  unfold bookV at e
  rw [len1, len2, len3] at e
  simp only [Value.agg.injEq, Array.mk.injEq, List.cons.injEq, Value.slice.injEq, and_true, true_and] at e
  obtain ⟨-, ⟨e1, -⟩, ⟨e2, -⟩, e3, -⟩ := e
  rw [e1, e2, e3]
  refine ⟨?_, ?_, ?_⟩
  · obtain ⟨b, o, u1, u2⟩ := p1
    rw [len1] at u1 u2
    refine ⟨b, o, u1, fun i hi => ?_⟩
    have := u2 i hi
    rw [show (mBk B k).orders.getD i Ord.zero = mX (bX B) k B.orders.length i from getD_range_map _ _ _ _ hi, show mX (bX B) k B.orders.length i = mOrd (kAt (bX B) k i) (bX B i) from if_pos hi] at this
    exact this
  · obtain ⟨b, o, u1, u2⟩ := p2
    rw [len2] at u1 u2
    refine ⟨b, o, u1, fun i hi => ?_⟩
    rw [u2 i hi]
    unfold bV
    rw [show (mBk B k).locked.getD i false = mb ((bK B k : Int) + i) from getD_range_map _ _ _ _ hi]
  · obtain ⟨b, o, u1, u2⟩ := p3
    rw [len3] at u1 u2
    refine ⟨b, o, u1, fun i hi => ?_⟩
    rw [u2 i hi]
    unfold bV
    rw [show (mBk B k).occ.getD i false = mb (((bK B k + B.locked.length : Nat) : Int) + i) from getD_range_map _ _ _ _ hi]
    congr 2

set_option maxHeartbeats 4000000 in
theorem heldDoneS_any (c n : Nat) (R : Nat → Bk) (k G : Nat) (s : Nat → Sl) (w : World) (ad : Option Addr) (had : 0 < n → ad = some ⟨G, 0, none⟩) (h0 : 0 < k) (hk : kD R k n ≤ 2305843009213693952) (hn : n ≤ 1048576) (ho : ∀ i, i < n → (R i).orders.length ≤ 1048576)
    (h1 : 0 < n → DRow w G n R s k n) (h2 : ∀ i, i < n → BookAt w (bookV (R i) (s i)) (mBk (R i) (kD R k i + 2))) :
    Calls Tryz.prog 27 #[.slice ad n c, .int .i64 k] w fun e w' => e = .returned (.int .i64 (kD R k n)) ∧ Below w.heap.size w w' := by
  have H0 : Hid ((0 < n → DRow w G n R s k n) ∧ (∀ i, i < n → BookAt w (bookV (R i) (s i)) (mBk (R i) (kD R k i + 2))) ∧ kD R k n ≤ 2305843009213693952) := ⟨h1, h2, hk⟩
  clear h1 h2 hk
  go_enter Tryz.func27, Tryz.ntmps27
  go_wp2
  go_loopw [1, 5] (fun q i wr => ∃ j : Nat, j ≤ n ∧ i = .int .i64 j ∧ q = .int .i64 (kD R k j) ∧ Below w.heap.size w wr) (fun _ i _ => n - (intOf i).toNat)
  case atStart => exact ⟨0, Nat.zero_le _, rfl, rfl, Below.refl _ _⟩
  case round =>
    obtain ⟨j, hj, rfl, rfl, hb⟩ := hrel
    by_cases hlt : j < n
    · obtain rfl := had (by omega)
      have hk0 : 0 < kD R k j := by have := kD_mono R k (i := 0) (j := j) (by omega); simp only [kD] at this; omega
      have hR : DRow wr G n R s k n := (H0.out.1 (by omega)).of_block (hb.block _ (H0.out.1 (by omega)).lt)
      obtain ⟨x0, x1⟩ := hR.mk hlt hlt
      obtain ⟨x2, x3, x4⟩ := hR.sl hlt
      have hP := (H0.out.2.1 j hlt).below hb
      obtain ⟨kj, hkj⟩ : ∃ kj, kj = kD R k j := ⟨_, rfl⟩
      have hkn : bK (R j) (kj + 2) + (R j).locked.length + (R j).occ.length ≤ 2305843009213693952 := by
        have h1 := kD_mono R k (i := j + 1) (j := n) (by omega)
        have h2 := H0.out.2.2
        simp only [kD, bEnd] at h1
        rw [hkj]; omega
      have hk2 : kj + 2 ≤ 2305843009213693952 := by have := bK_le (R j) (kj + 2); omega
      rw [← hkj] at x0 x1 hP hk0 ⊢
      obtain ⟨r1, r2, r3⟩ := held_parts hP
      have HK : Hid (kj = kD R k j) := hkj
      have hoj := ho j hlt
      have HR : Hid (_ ∧ _ ∧ _) := ⟨r1, r2, r3⟩
      clear hkj hR hP had ho r1 r2 r3
      obtain ⟨k1, hk1⟩ : ∃ k1, k1 = bK (R j) (kj + 2) := ⟨_, rfl⟩
      rw [← hk1] at hkn
      have HK1 : Hid (k1 = bK (R j) (kj + 2)) := hk1
      clear hk1
      go_wp2_with fail
      have e2 : (kj : Int) + 1 + 1 = ((kj + 2 : Nat) : Int) := by omega
      rw [e2]
      refine (heldOrderS_any (s j).ao (s j).co (R j).orders.length (bX (R j)) (kj + 2) _ (by omega) (by have e : kAt (bX (R j)) (kj + 2) (R j).orders.length = k1 := HK1.out.symm; rw [e]; omega) hoj HR.out.1).mono ?_
      rintro e w1 ⟨rfl, hb1⟩
      rw [show kAt (bX (R j)) (kj + 2) (R j).orders.length = k1 from HK1.out.symm]
      have y3 := (hb1.cell (p := ⟨G, j * 5 + 3, none⟩) (World.block_lt_of_cell? _ _ x3)).trans x3
      have y4 := (hb1.cell (p := ⟨G, j * 5 + 4, none⟩) (World.block_lt_of_cell? _ _ x4)).trans x4
      have HR1 : Hid (_ ∧ _ ∧ _) := ⟨HR.out.2.1.below hb1, HR.out.2.2.below hb1, below_trans hb hb.size hb1⟩
      clear hb1 hb x0 x1 x2 x3 x4 HR
      have nn1 : (0 : Int) ≤ (k1 : Int) := by omega
      go_wp2_with fail
      refine (heldBoolS_any (s j).al (s j).cl (R j).locked.length k1 _ (by omega) (by omega) (by have := HR1.out.1; rw [← HK1.out] at this; exact this)).mono ?_
      rintro e w2 ⟨rfl, hb2⟩
      have z4 := (hb2.cell (p := ⟨G, j * 5 + 4, none⟩) (World.block_lt_of_cell? _ _ y4)).trans y4
      have HR2 : Hid (_ ∧ _) := ⟨HR1.out.2.1.below hb2, below_trans HR1.out.2.2 HR1.out.2.2.size hb2⟩
      clear hb2 y3 y4 HR1
      have nn2 : (0 : Int) ≤ (k1 : Int) + (R j).locked.length := by omega
      go_wp2_with fail
      refine (heldBoolS_any (s j).ac (s j).cc (R j).occ.length ((k1 : Int) + (R j).locked.length) _ (by omega) (by omega) (by have := HR2.out.1; rw [← HK1.out] at this; exact this)).mono ?_
      rintro e w3 ⟨rfl, hb3⟩
      have HR3 : Hid (Below w.heap.size w w3) := below_trans HR2.out.2 HR2.out.2.size hb3
      clear hb3 z4 HR2
      have nn3 : (0 : Int) ≤ (k1 : Int) + (R j).locked.length + (R j).occ.length := by omega
      go_wp2
      go_roundw
      case rel =>
        refine ⟨j + 1, by omega, by go_num, ?_, HR3.out⟩
        show Value.int _ _ = Value.int _ _
        rw [show kD R k (j + 1) = bK (R j) (kD R k j + 2) + (R j).locked.length + (R j).occ.length from rfl, ← HK.out, ← HK1.out]
        congr 1
      case measure => simp [intOf]; omega
    · obtain rfl : j = n := by omega
      clear had
      go_wp2
      go_ret
      exact ⟨rfl, hb⟩

end Go.Proofs.YtbgmgfnhmlpehabGreatDoor

/-
  Dones appended one by one; what Run answers, as a list. Mine, by template (wip/gen.py).
-/
namespace Go.Proofs.YtbgmgfnhmlpehabGreatDoor
open Go.RowKit

def flatD (C : Nat → Int) (R : Nat → Bk) (s : Nat → Sl) (n : Nat) : List Value := (List.range (n * 5)).map (doneCells C R s)
def cellsD (c : Int) (B : Bk) (s : Sl) : List Value := [.int .i64 c, .int .i64 B.n, .slice s.ao B.orders.length s.co, .slice s.al B.locked.length s.cl, .slice s.ac B.occ.length s.cc]

theorem flatD_succ (C : Nat → Int) (R : Nat → Bk) (s : Nat → Sl) (n : Nat) (c : Int) (B : Bk) (t : Sl) :
    flatD (put1 C n c) (put1 R n B) (put1 s n t) (n + 1) = flatD C R s n ++ cellsD c B t := by
  unfold flatD
  rw [show (n + 1) * 5 = n * 5 + 5 by omega, List.range_add, List.map_append]
  congr 1
  · refine List.map_congr_left (fun j hj => ?_)
    have hj' : j < n * 5 := List.mem_range.1 hj
    unfold doneCells
    rw [put1_old C n c (i := j / 5) (by omega), put1_old R n B (i := j / 5) (by omega), put1_old s n t (i := j / 5) (by omega)]
  · have d : ∀ r, r < 5 → (n * 5 + r) / 5 = n ∧ (n * 5 + r) % 5 = r := fun r hr => by omega
    have g : ∀ r, r < 5 → doneCells (put1 C n c) (put1 R n B) (put1 s n t) (n * 5 + r) = doneCell c B t r := fun r hr => by
      unfold doneCells
      rw [(d r hr).1, (d r hr).2, put1_new, put1_new, put1_new]
    rw [show List.range 5 = [0, 1, 2, 3, 4] from rfl]
    simp only [List.map_cons, List.map_nil]
    rw [g 0 (by omega), g 1 (by omega), g 2 (by omega), g 3 (by omega), g 4 (by omega)]
    rfl

/-- The first n Dones of a slice that is appended to. -/
structure RowDones (w : World) (lo : Nat) (u : Value) (n : Nat) (C : Nat → Int) (R : Nat → Bk) (s : Nat → Sl) (K : Nat → Blk) : Prop where
  row : w.ownsRow lo 35 5 u n (flatD C R s n)
  own : ∀ i, i < n → OwnBook w lo (bookV (R i) (s i)) (R i) (K i)
  dis : ∀ i, i < n → ∀ x, bookBlocks (R i) (K i) x → u.ownBlock ≠ some x
  apart : ∀ i j, i < n → j < n → i ≠ j → ∀ x, bookBlocks (R i) (K i) x → ¬ bookBlocks (R j) (K j) x

theorem RowDones.below {w w' : World} {lo : Nat} {u : Value} {n : Nat} {C : Nat → Int} {R : Nat → Bk} {s : Nat → Sl} {K : Nat → Blk} (h : RowDones w lo u n C R s K) (hb : Below w.heap.size w w') : RowDones w' lo u n C R s K :=
  ⟨owns_below h.row hb, fun i hi => (h.own i hi).below hb, h.dis, h.apart⟩

theorem RowDones.push {w w2 : World} {lo : Nat} {u u2 : Value} {n : Nat} {C : Nat → Int} {R : Nat → Bk} {s : Nat → Sl} {K : Nat → Blk} (h : RowDones w lo u n C R s K) (c : Int) (B : Bk) (t : Sl) (L : Blk)
    (hB : OwnBook w lo (bookV B t) B L) (hd : ∀ x, bookBlocks B L x → u.ownBlock ≠ some x) (ha : ∀ i, i < n → ∀ x, bookBlocks (R i) (K i) x → ¬ bookBlocks B L x)
    (h2 : w2.ownsRow lo 35 5 u2 (n + 1) (flatD C R s n ++ cellsD c B t)) (hg : w.grownBy w2 u.ownBlock) (hk : u2.ownBlock = u.ownBlock ∨ u2.ownBlock = some w.heap.size) :
    RowDones w2 lo u2 (n + 1) (put1 C n c) (put1 R n B) (put1 s n t) (put1 K n L) := by
  have hf : Fr (fun x => u.ownBlock = some x) w w2 := ⟨hg.os, hg.tape, hg.output, hg.size, fun k hk' hn => hg.block k hk' (fun e => hn e.symm)⟩
  have new : ∀ x, x < w.heap.size → u.ownBlock ≠ some x → u2.ownBlock ≠ some x := fun x hx hu => by
    rcases hk with e | e
    · rw [e]; exact hu
    · rw [e]; simp only [ne_eq, Option.some.injEq]; omega
  refine ⟨by rw [flatD_succ]; exact h2, fun i hi => ?_, fun i hi x hx => ?_, fun i j hi hj e x hx hy => ?_⟩
  · by_cases ei : i = n
    · subst ei
      rw [put1_new, put1_new, put1_new]
      exact hB.fr hf (fun b hb => hd b hb)
    · have hi' : i < n := by omega
      rw [put1_old _ _ _ hi', put1_old _ _ _ hi', put1_old _ _ _ hi']
      exact (h.own i hi').fr hf (fun b hb => h.dis i hi' b hb)
  · by_cases ei : i = n
    · subst ei
      rw [put1_new, put1_new] at hx
      exact new x (hB.blocks_lt hx) (hd x hx)
    · have hi' : i < n := by omega
      rw [put1_old _ _ _ hi', put1_old _ _ _ hi'] at hx
      exact new x ((h.own i hi').blocks_lt hx) (h.dis i hi' x hx)
  · by_cases ei : i = n
    · have hj' : j < n := by omega
      subst ei
      rw [put1_new, put1_new] at hx
      rw [put1_old _ _ _ hj', put1_old _ _ _ hj'] at hy
      exact ha j hj' x hy hx
    · have hi' : i < n := by omega
      rw [put1_old _ _ _ hi', put1_old _ _ _ hi'] at hx
      by_cases ej : j = n
      · subst ej
        rw [put1_new, put1_new] at hy
        exact ha i hi' x hx hy
      · have hj' : j < n := by omega
        rw [put1_old _ _ _ hj', put1_old _ _ _ hj'] at hy
        exact h.apart i j hi' hj' e x hx hy

theorem RowDones.done {w : World} {lo : Nat} {u : Value} {n : Nat} {C : Nat → Int} {R : Nat → Bk} {s : Nat → Sl} {K : Nat → Blk} (h : RowDones w lo u n C R s K) :
    ∃ ad c G, u = .slice ad n c ∧ (0 < n → ad = some ⟨G, 0, none⟩) ∧ OwnDones w lo n C R G s K := by
  obtain ⟨ad, c, G, hv, hp⟩ := pre_of_owns h.row
  refine ⟨ad, c, G, hv, fun p => (hp p).1, ⟨fun p => (hp p).2.2.1, fun p => (hp p).2.1, h.own, fun i hi x hx e => h.dis i hi x hx ?_, h.apart⟩⟩
  rw [(hp (by omega)).2.2.2, e]

/-! ### What Run answers -/

/-- The book ahead of event j. -/
noncomputable def rB (B : Bk) (X : Nat → Ev) : Nat → Bk
  | 0 => B
  | j + 1 => if (doP (rB B X j) (X j)).1 = 1 then rB B X j else (doP (rB B X j) (X j)).2
noncomputable def rC (B : Bk) (X : Nat → Ev) (j : Nat) : Int := (doP (rB B X j) (X j)).1

theorem tiny_rB {B : Bk} (h : Tiny B) (X : Nat → Ev) (j : Nat) : Tiny (rB B X j) := by
  induction j with
  | zero => exact h
  | succ j ih =>
    simp only [rB]
    split
    · exact ih
    · exact tiny_doP _ _

end Go.Proofs.YtbgmgfnhmlpehabGreatDoor

/-
  The names in a book that an event leaves are short; so are those along a run. Mine, by template (wip/gen.py).
-/
namespace Go.Proofs.YtbgmgfnhmlpehabGreatDoor
open Go.RowKit

def Names (B : Bk) : Prop := ∀ i, i < B.orders.length → (bX B i).holder.size ≤ 20

theorem names_right {B : Bk} (h : Right B) : Names B := fun i hi => (h.2.1 i hi).1.2.2

theorem names_set {B : Bk} (h : Names B) (i : Nat) (s : Int) (hi : i < B.orders.length) : Names (setState B i s) := by
  intro j hj
  rw [set_len] at hj
  have e : (bX (setState B i s) j).holder = (bX B j).holder := by
    show ((B.orders.set i (setSt (bX B i) s)).getD j Ord.zero).holder = _
    rw [getD_set _ _ _ _ _ hi]
    by_cases e : j = i
    · subst e; rw [if_pos rfl]; rfl
    · rw [if_neg e]; rfl
  rw [e]
  exact h j hj

theorem names_doP (B : Bk) (E : Ev) : Names (doP B E).2 := by
  by_cases hok : EvOk B E
  case neg => rw [doP_none hok]; exact fun i hi => absurd hi (by simp [zeroBk])
  have hT := names_right hok.1
  have hin := EvOk.some hok
  unfold In at hin
  have num : ∀ {n : Nat}, In E.of_ 0 ((n : Int) - 1) → E.of_.toNat < n := fun h => by unfold In at h; omega
  rcases (show E.op = 1 ∨ E.op = 2 ∨ E.op = 3 ∨ E.op = 4 ∨ E.op = 5 ∨ E.op = 6 ∨ E.op = 7 ∨ E.op = 8 ∨ E.op = 9 by omega) with o | o | o | o | o | o | o | o | o
  · rw [doP_write hok o]
    unfold doWrite
    split
    · intro i hi
      have hl : (addOrd B (eOrd E)).orders.length = B.orders.length + 1 := by simp [addOrd]
      rw [hl] at hi
      by_cases e : i = B.orders.length
      · subst e
        show ((B.orders ++ [eOrd E]).getD B.orders.length Ord.zero).holder.size ≤ 20
        simp only [List.getD_eq_getElem?_getD, List.getElem?_concat_length, Option.getD_some]
        exact (EvOk.at1 hok o).2.1.2.2
      · have hi' : i < B.orders.length := by omega
        show ((B.orders ++ [eOrd E]).getD i Ord.zero).holder.size ≤ 20
        rw [List.getD_eq_getElem?_getD, List.getElem?_append_left hi', ← List.getD_eq_getElem?_getD]
        exact hT i hi'
    · exact hT
  · rw [doP_give hok o]
    have := num (EvOk.at25 hok (Or.inl o)).1
    unfold doGive
    split
    · exact names_set hT _ _ this
    · exact hT
  · rw [doP_repeat hok o]
    have := num (EvOk.at3 hok o).1
    unfold doRepeat
    split
    · exact hT
    · split
      · exact hT
      · split
        · exact names_set hT _ _ this
        · exact names_set hT _ _ this
  · rw [doP_back hok o]
    have := num (EvOk.at4 hok o).1
    unfold doBack
    split
    · exact hT
    · split
      · exact hT
      · exact names_set hT _ _ this
  · rw [doP_cancel hok o]
    have := num (EvOk.at25 hok (Or.inr o)).1
    unfold doCancel
    split
    · exact hT
    · exact names_set hT _ _ this
  · rw [doP_lock hok o]
    unfold doLock
    split
    · exact hT
    · exact hT
  · rw [doP_unlock hok o]; exact hT
  · rw [doP_occ hok o]; exact hT
  · rw [doP_free hok o]; exact hT

theorem names_rB {B : Bk} (h : Names B) (X : Nat → Ev) (j : Nat) : Names (rB B X j) := by
  induction j with
  | zero => exact h
  | succ j ih =>
    simp only [rB]
    split
    · exact ih
    · exact names_doP _ _

theorem small_rB {B : Bk} (ht : Tiny B) (h : Names B) (X : Nat → Ev) (j : Nat) : (rB B X j).orders.length ≤ 1048576 ∧ ∀ i, i < (rB B X j).orders.length → (bX (rB B X j) i).secs.length ≤ 1048576 ∧ (bX (rB B X j) i).holder.size ≤ 1048576 :=
  ⟨Nat.le_trans (tiny_rB ht X j).o (by decide), fun i hi => ⟨Nat.le_trans ((tiny_rB ht X j).s i hi) (by decide), Nat.le_trans (names_rB h X j i hi) (by decide)⟩⟩

end Go.Proofs.YtbgmgfnhmlpehabGreatDoor

/-
  What is kept along Run's loop, in both programs. Mine, by template (wip/gen.py).
-/
namespace Go.Proofs.YtbgmgfnhmlpehabGreatDoor
open Go.RowKit

theorem Tryz.infoDone : (Tryz.prog.info? 35).map (fun i => (i.zero, i.size, i.bytes)) = some (some (.agg #[.int .i64 0, .int .i64 0, .slice none 0 0, .slice none 0 0, .slice none 0 0]), 5, 88) := by kernel_rfl

def runOk (s : Int) (n : Nat) : Prop := (1 ≤ s ∧ s ≤ 60) ∧ n ≤ 1000

/-- What Run answers. -/
def RetRun (e : Ending) (w w' : World) (s : Int) (n : Nat) (X : Nat → Ev) : Prop :=
  ∃ m ad c G sl K, ((runOk s n ∧ m = n) ∨ (¬ runOk s n ∧ m = 0)) ∧ e = .returned (.slice ad m c) ∧ (0 < m → ad = some ⟨G, 0, none⟩) ∧ OwnDones w' w.heap.size m (rC (beginBk s) X) (fun i => rB (beginBk s) X (i + 1)) G sl K ∧ Below w.heap.size w w'

theorem OwnDones.mono {w : World} {lo lo' n : Nat} {C : Nat → Int} {R : Nat → Bk} {G : Nat} {s : Nat → Sl} {K : Nat → Blk} (h : OwnDones w lo n C R G s K) (hl : lo' ≤ lo) : OwnDones w lo' n C R G s K :=
  ⟨h.row, fun p => Nat.le_trans hl (h.low p), fun i hi => (h.own i hi).mono hl, h.dis, h.apart⟩
theorem ownDones_nil (w : World) (lo : Nat) (C : Nat → Int) (R : Nat → Bk) (G : Nat) (s : Nat → Sl) (K : Nat → Blk) : OwnDones w lo 0 C R G s K :=
  ⟨fun h => absurd h (by omega), fun h => absurd h (by omega), fun i h => absurd h (by omega), fun i h => absurd h (by omega), fun i j h => absurd h (by omega)⟩

theorem RowDones.fr {w w' : World} {lo : Nat} {u : Value} {n : Nat} {C : Nat → Int} {R : Nat → Bk} {s : Nat → Sl} {K : Nat → Blk} (h : RowDones w lo u n C R s K) {S : Nat → Prop} (hf : Fr S w w') (hs : ∀ x, lo ≤ x → ¬ S x) : RowDones w' lo u n C R s K :=
  ⟨owns_of_block h.row (fun g hg => hf.block g (owns_lt h.row hg).2 (hs g (owns_lt h.row hg).1)), fun i hi => (h.own i hi).fr hf (fun b hb => hs b ((h.own i hi).blocks_low hb)), h.dis, h.apart⟩

/-- Ahead of event k: the book's variable P, and the Dones so far. -/
structure RunInv (w wr : World) (P lo : Nat) (u : Value) (k : Nat) (B : Bk) (X : Nat → Ev) (sl : Nat → Sl) (K : Nat → Blk) (s : Sl) (Kb : Blk) : Prop where
  bel : Below w.heap.size w wr
  box : wr.heap[P]? = some (.cells #[.int .i64 (rB B X k).n, .slice s.ao (rB B X k).orders.length s.co, .slice s.al (rB B X k).locked.length s.cl, .slice s.ac (rB B X k).occ.length s.cc] 33 (0, 0))
  own : OwnBook wr w.heap.size (bookV (rB B X k) s) (rB B X k) Kb
  dis : ∀ x, bookBlocks (rB B X k) Kb x → u.ownBlock ≠ some x ∧ x ≠ P
  row : RowDones wr lo u k (rC B X) (fun i => rB B X (i + 1)) sl K
  wP : w.heap.size ≤ P
  pl : P < lo
  lw : lo ≤ wr.heap.size

theorem RunInv.below {w wr w' : World} {P lo : Nat} {u : Value} {k : Nat} {B : Bk} {X : Nat → Ev} {sl : Nat → Sl} {K : Nat → Blk} {s : Sl} {Kb : Blk} (h : RunInv w wr P lo u k B X sl K s Kb) (hb : Below wr.heap.size wr w') : RunInv w w' P lo u k B X sl K s Kb :=
  ⟨below_trans h.bel h.bel.size hb, (hb.block _ (by have := h.pl; have := h.lw; omega)).trans h.box, h.own.below hb, h.dis, h.row.below hb, h.wP, h.pl, Nat.le_trans h.lw hb.size⟩

/-- The world when the new book is stored in the book's variable. -/
def putBook (y : World) (P : Nat) (B : Bk) (s : Sl) : World := (((y.setCell ⟨P, 0, none⟩ (.int .i64 B.n)).setCell ⟨P, 1, none⟩ (.slice s.ao B.orders.length s.co)).setCell ⟨P, 2, none⟩ (.slice s.al B.locked.length s.cl)).setCell ⟨P, 3, none⟩ (.slice s.ac B.occ.length s.cc)

theorem putBook_fr (y : World) (P : Nat) (B : Bk) (s : Sl) : Fr (fun x => x = P) y (putBook y P B s) := fr_one (fr_one (fr_one (fr_one (Fr.refl _ _))))
theorem putBook_box {y : World} {P : Nat} {B : Bk} {s : Sl} {z0 z1 z2 z3 : Value} (h : y.heap[P]? = some (.cells #[z0, z1, z2, z3] 33 (0, 0))) : (putBook y P B s).heap[P]? = some (.cells #[.int .i64 B.n, .slice s.ao B.orders.length s.co, .slice s.al B.locked.length s.cl, .slice s.ac B.occ.length s.cc] 33 (0, 0)) :=
  (box_set (box_set (box_set (box_set h _) _) _) _).trans rfl

/-- Event k is behind: its Done is appended. V: the world ahead of append, of whose old blocks only P has turned. -/
theorem RunInv.step {w wr V wU : World} {P lo : Nat} {u u2 : Value} {k : Nat} {B : Bk} {X : Nat → Ev} {sl : Nat → Sl} {K : Nat → Blk} {s : Sl} {Kb : Blk} (h : RunInv w wr P lo u k B X sl K s Kb) (hf : Fr (fun x => x = P) wr V) {s' : Sl} {K' : Blk} {R : Bk} (hR : rB B X (k + 1) = R) {c : Int} (hc : rC B X k = c)
    (yP : V.heap[P]? = some (.cells #[.int .i64 R.n, .slice s'.ao R.orders.length s'.co, .slice s'.al R.locked.length s'.cl, .slice s'.ac R.occ.length s'.cc] 33 (0, 0)))
    (hB : OwnBook V wr.heap.size (bookV R s') R K')
    (h2 : wU.ownsRow lo 35 5 u2 (k + 1) (flatD (rC B X) (fun i => rB B X (i + 1)) sl k ++ cellsD c R s')) (hg : V.grownBy wU u.ownBlock) (hk : u2.ownBlock = u.ownBlock ∨ u2.ownBlock = some V.heap.size) :
    RunInv w wU P lo u2 (k + 1) B X (put1 sl k s') (put1 K k K') s' K' := by
  subst hR
  subst hc
  have hw := h.wP
  have hp := h.pl
  have hl := h.lw
  have hz := hf.size
  have hlow : ∀ x, bookBlocks (rB B X (k + 1)) K' x → wr.heap.size ≤ x ∧ x < V.heap.size := fun x hx => ⟨hB.blocks_low hx, hB.blocks_lt hx⟩
  have ub : ∀ g, u.ownBlock = some g → lo ≤ g ∧ g < wr.heap.size := fun g hg => owns_lt h.row.row hg
  have rD : RowDones V lo u k (rC B X) (fun i => rB B X (i + 1)) sl K := h.row.fr hf (fun x hx e => by omega)
  have oD : OwnBook V lo (bookV (rB B X (k + 1)) s') (rB B X (k + 1)) K' := hB.mono hl
  have hgf : Fr (fun x => u.ownBlock = some x) V wU := ⟨hg.os, hg.tape, hg.output, hg.size, fun j hj hn => hg.block j hj (fun e => hn e.symm)⟩
  have push := rD.push (rC B X k) (rB B X (k + 1)) s' K' oD (fun x hx e => by have := (hlow x hx).1; have := (ub x e).2; omega) (fun i hi x hx hx' => by have := (hlow x hx').1; have := (h.row.own i hi).blocks_lt hx; omega) h2 hg hk
  rw [put1_same, show put1 (fun i => rB B X (i + 1)) k (rB B X (k + 1)) = fun i => rB B X (i + 1) from put1_same _ _] at push
  refine ⟨?_, ?_, ?_, fun x hx => ⟨fun e => ?_, by have := (hlow x hx).1; omega⟩, push, hw, hp, ?_⟩
  · exact (h.bel.trans (hf.below (by have := h.bel.size; omega) (fun x e => by omega))).trans (hgf.below (by have := h.bel.size; omega) (fun x e => by have := (ub x e).1; omega))
  · exact (hgf.block P (by omega) (fun e => by have := (ub P e).1; omega)).trans yP
  · exact (oD.fr hgf (fun x hx e => by have := (hlow x hx).1; have := (ub x e).2; omega)).mono (by omega)
  · rcases hk with q | q
    · rw [q] at e; have := (ub x e).2; have := (hlow x hx).1; omega
    · rw [q] at e; have := Option.some.inj e; have := (hlow x hx).2; omega
  · have := hgf.size; omega

end Go.Proofs.YtbgmgfnhmlpehabGreatDoor

/-
  The contract of spec.Run. Mine, by program (wip/srun.py), by template (wip/gen.py).
-/
namespace Go.Proofs.YtbgmgfnhmlpehabGreatDoor
open Go.RowKit

theorem dcells {w : World} {p : Nat} {a b c d e : Value} {t : TypeId} (h : w.heap[p]? = some (.cells #[a, b, c, d, e] t (0, 0))) :
    w.cell? ⟨p, 0, none⟩ = some a ∧ w.cell? ⟨p, 1, none⟩ = some b ∧ w.cell? ⟨p, 2, none⟩ = some c ∧ w.cell? ⟨p, 3, none⟩ = some d ∧ w.cell? ⟨p, 4, none⟩ = some e := by
  simp [World.cell?, h]

theorem n_doP (B : Bk) (E : Ev) : (doP B E).2.n = B.n ∨ (doP B E).2.n = 0 := by
  by_cases hok : EvOk B E
  case neg => rw [doP_none hok]; exact Or.inr rfl
  have hin := EvOk.some hok
  unfold In at hin
  rcases (show E.op = 1 ∨ E.op = 2 ∨ E.op = 3 ∨ E.op = 4 ∨ E.op = 5 ∨ E.op = 6 ∨ E.op = 7 ∨ E.op = 8 ∨ E.op = 9 by omega) with o | o | o | o | o | o | o | o | o
  · rw [doP_write hok o]; unfold doWrite; split <;> exact Or.inl rfl
  · rw [doP_give hok o]; unfold doGive; split <;> exact Or.inl rfl
  · rw [doP_repeat hok o]; unfold doRepeat; split
    · exact Or.inl rfl
    · split
      · exact Or.inl rfl
      · split <;> exact Or.inl rfl
  · rw [doP_back hok o]; unfold doBack; split
    · exact Or.inl rfl
    · split <;> exact Or.inl rfl
  · rw [doP_cancel hok o]; unfold doCancel; split <;> exact Or.inl rfl
  · rw [doP_lock hok o]; unfold doLock; split <;> exact Or.inl rfl
  · rw [doP_unlock hok o]; exact Or.inl rfl
  · rw [doP_occ hok o]; exact Or.inl rfl
  · rw [doP_free hok o]; exact Or.inl rfl

theorem n_rB {B : Bk} (h : -9223372036854775808 ≤ B.n ∧ B.n ≤ 9223372036854775807) (X : Nat → Ev) (j : Nat) : -9223372036854775808 ≤ (rB B X j).n ∧ (rB B X j).n ≤ 9223372036854775807 := by
  induction j with
  | zero => exact h
  | succ j ih =>
    simp only [rB]
    split
    · exact ih
    · rcases n_doP (rB B X j) (X j) with e | e <;> rw [e]
      · exact ih
      · exact ⟨by omega, by omega⟩

theorem begin_n {s : Int} (h : 1 ≤ s ∧ s ≤ 60) : (beginBk s).n = s := by unfold beginBk; rw [if_pos h]
theorem begin_n0 {s : Int} (h : ¬ (1 ≤ s ∧ s ≤ 60)) : (beginBk s).n = 0 := by unfold beginBk; rw [if_neg h]
theorem begin_tiny (s : Int) : Tiny (beginBk s) ∧ Names (beginBk s) ∧ -9223372036854775808 ≤ (beginBk s).n ∧ (beginBk s).n ≤ 9223372036854775807 := by
  unfold beginBk
  split
  · next h => exact ⟨⟨by simp, fun i hi => absurd hi (by simp), by simp; omega, by simp; omega⟩, fun i hi => absurd hi (by simp), by dsimp only; omega, by dsimp only; omega⟩
  · exact ⟨⟨by simp, fun i hi => absurd hi (by simp), by simp, by simp⟩, fun i hi => absurd hi (by simp), by dsimp only; omega, by dsimp only; omega⟩

/-- The world when a new book is stored in a Done's variable. -/
def putQ (y : World) (Q : Nat) (B : Bk) (s : Sl) : World := (((y.setCell ⟨Q, 1, none⟩ (.int .i64 B.n)).setCell ⟨Q, 2, none⟩ (.slice s.ao B.orders.length s.co)).setCell ⟨Q, 3, none⟩ (.slice s.al B.locked.length s.cl)).setCell ⟨Q, 4, none⟩ (.slice s.ac B.occ.length s.cc)
theorem putQ_below {w y : World} {lo Q : Nat} {B : Bk} {s : Sl} (h : Below lo w y) (hq : lo ≤ Q) : Below lo w (putQ y Q B s) := below_set (below_set (below_set (below_set h _ _ hq _) _ _ hq _) _ _ hq _) _ _ hq _
theorem putQ_own {y : World} {lo Q : Nat} {B R : Bk} {s : Sl} {v : Value} {K : Blk} (h : OwnBook y lo v R K) (hq : ∀ x, bookBlocks R K x → x ≠ Q) : OwnBook (putQ y Q B s) lo v R K := (((h.setOther (a := ⟨Q, 1, none⟩) hq _).setOther (a := ⟨Q, 2, none⟩) hq _).setOther (a := ⟨Q, 3, none⟩) hq _).setOther (a := ⟨Q, 4, none⟩) hq _
theorem putQ_other {y : World} {Q P : Nat} {B : Bk} {s : Sl} (h : P ≠ Q) : (putQ y Q B s).heap[P]? = y.heap[P]? := (Deep.blk_setCell_other _ _ _ _ h).trans ((Deep.blk_setCell_other _ _ _ _ h).trans ((Deep.blk_setCell_other _ _ _ _ h).trans (Deep.blk_setCell_other _ _ _ _ h)))
theorem putQ_size (y : World) (Q : Nat) (B : Bk) (s : Sl) : (putQ y Q B s).heap.size = y.heap.size := by simp [putQ, World.setCell]
theorem putBook_size (y : World) (P : Nat) (B : Bk) (s : Sl) : (putBook y P B s).heap.size = y.heap.size := by simp [putBook, World.setCell]

set_option maxHeartbeats 8000000 in
set_option maxRecDepth 20000 in
theorem specRun_any (sct : Int) (ad : Option Addr) (c n : Nat) (X : Nat → Ev) (w : World) (hn : n ≤ 1048576) (hX : ∀ i, i < n → (X i).holder.size ≤ 1048576 ∧ (X i).text.size ≤ 1048576 ∧ (X i).secs.length ≤ 1048576) (G : EventsAt w ad n X) :
    Calls Tryz.prog 20 #[.int .i64 sct, .slice ad n c] w fun e w' => RetRun e w w' sct n X := by
  have HG : Hid (EventsAt w ad n X ∧ ∀ i, i < n → (X i).holder.size ≤ 1048576 ∧ (X i).text.size ≤ 1048576 ∧ (X i).secs.length ≤ 1048576) := ⟨G, hX⟩
  clear G hX
  obtain ⟨id, hid, zd0, zd1, zd2⟩ := info_parts Tryz.infoDone
  go_enter Tryz.func20, Tryz.ntmps20
  go_wp2_with fail
  refine (specBegin_any sct w).mono ?_
  rintro e w1 ⟨v, rfl, ⟨K0, hB0⟩, hb⟩
  obtain ⟨ao, co, al, cl, ac, cc, hv, -⟩ := hB0.shape
  subst hv
  have H1 : Hid (OwnBook w1 w.heap.size (bookV (beginBk sct) ⟨ao, co, al, cl, ac, cc⟩) (beginBk sct) K0 ∧ Below w.heap.size w w1) := ⟨hB0, hb⟩
  clear hB0 hb
  by_cases hs : 1 ≤ sct ∧ sct ≤ 60
  case neg =>
    have t0 : ((beginBk sct).n == 0) = true := by rw [begin_n0 hs]; rfl
    have HN : Hid (¬ runOk sct n) := fun q => hs q.1
    clear hs
    go_wp2
    go_ret
    exact ⟨0, none, 0, 0, fun _ => ⟨none, 0, none, 0, none, 0⟩, fun _ => K0, Or.inr ⟨HN.out, rfl⟩, rfl, fun h => absurd h (by omega), ownDones_nil _ _ _ _ _ _ _, H1.out.2.alloc H1.out.2.size _⟩
  have t0 : ((beginBk sct).n == 0) = false := by rw [begin_n hs]; simp; omega
  by_cases h1000 : 1000 < n
  · have HN : Hid (¬ runOk sct n) := fun q => by have := q.2; omega
    have t1 : (1000 : Int) < (n : Int) := by omega
    clear hs h1000
    go_wp2
    go_ret
    exact ⟨0, none, 0, 0, fun _ => ⟨none, 0, none, 0, none, 0⟩, fun _ => K0, Or.inr ⟨HN.out, rfl⟩, rfl, fun h => absurd h (by omega), ownDones_nil _ _ _ _ _ _ _, H1.out.2.alloc H1.out.2.size _⟩
  have HO : Hid (runOk sct n) := ⟨hs, by omega⟩
  have HB : Hid (Tiny (beginBk sct) ∧ Names (beginBk sct) ∧ -9223372036854775808 ≤ (beginBk sct).n ∧ (beginBk sct).n ≤ 9223372036854775807) := begin_tiny sct
  have t1 : ¬ (1000 : Int) < (n : Int) := by omega
  clear hs h1000
  go_wp2
  have I0 : RunInv w (w1.alloc (.cells #[.int .i64 (beginBk sct).n, .slice ao (beginBk sct).orders.length co, .slice al (beginBk sct).locked.length cl, .slice ac (beginBk sct).occ.length cc] 33)) w1.heap.size (w1.heap.size + 1) (.slice none 0 0) 0 (beginBk sct) X (fun _ => ⟨none, 0, none, 0, none, 0⟩) (fun _ => K0) ⟨ao, co, al, cl, ac, cc⟩ K0 :=
    ⟨H1.out.2.alloc H1.out.2.size _, Deep.blk_alloc_new _ _, H1.out.1.below (below1 _ _), fun x hx => ⟨fun e => (by cases e), by have := H1.out.1.blocks_lt hx; omega⟩, ⟨World.ownsRow_nil _ _ _ _, fun i hi => absurd hi (by omega), fun i hi => absurd hi (by omega), fun i j hi => absurd hi (by omega)⟩, H1.out.2.size, by omega, by simp⟩
  obtain ⟨B, hB⟩ : ∃ B, B = beginBk sct := ⟨_, rfl⟩
  rw [← hB] at I0 HB t0 ⊢
  have HBe : Hid (B = beginBk sct) := hB
  have HI : Hid (RunInv w (w1.alloc (.cells #[.int .i64 B.n, .slice ao B.orders.length co, .slice al B.locked.length cl, .slice ac B.occ.length cc] 33)) w1.heap.size (w1.heap.size + 1) (.slice none 0 0) 0 B X (fun _ => ⟨none, 0, none, 0, none, 0⟩) (fun _ => K0) ⟨ao, co, al, cl, ac, cc⟩ K0) := I0
  clear I0 H1 hB t0
  go_loopw [6, 22] (fun o i wr => ∃ (k : Nat) (u : Value) (sl : Nat → Sl) (K : Nat → Blk) (s : Sl) (Kb : Blk), k ≤ n ∧ i = .int .i64 k ∧ o = u ∧ RunInv w wr w1.heap.size (w1.heap.size + 1) u k B X sl K s Kb) (fun _ i _ => n - (intOf i).toNat)
  case atStart => exact ⟨0, _, _, _, _, _, Nat.zero_le _, rfl, rfl, HI.out⟩
  case round =>
    obtain ⟨k, u, sl, K, s, Kb, hk, rfl, ho, hi⟩ := hrel
    obtain rfl := ho.symm
    clear HI
    by_cases hlt : k < n
    · obtain ⟨b, oo, h2, g⟩ := HG.out.1
      obtain rfl := h2 (by omega)
      obtain ⟨sa, sc, q⟩ := g k hlt
      have hXk := HG.out.2 k hlt
      obtain ⟨x0, x1, x2, x3, x4, x5, x6⟩ := q.below hi.bel
      obtain ⟨p0, p1, p2, p3⟩ := box_cells hi.box
      have zP : w1.heap.size < wr.heap.size := by have := hi.pl; have := hi.lw; omega
      have lb : b < wr.heap.size := World.block_lt_of_cell? _ _ x0
      have HR : Hid (RunInv w wr w1.heap.size (w1.heap.size + 1) u k B X sl K s Kb ∧ Cells wr sa (X k).secs.length (iV (X k).secs)) := ⟨hi, x6⟩
      clear g h2 q hi x6
      go_wp2_with fail
      refine (specDo_any _ _ (rB B X k) (X k) _ (small_rB HB.out.1 HB.out.2.1 X k) (n_rB HB.out.2.2 X k) hXk.1 hXk.2.1 hXk.2.2 (HR.out.1.own.bookAt.below (below1 _ _)) ⟨sa, sc, rfl, HR.out.2.below (below1 _ _)⟩).mono ?_
      rintro e w2 ⟨a2, b2, c2, d2, KD, rfl, hD, hbD⟩
      obtain ⟨ao2, co2, al2, cl2, ac2, cc2, rfl, rfl, rfl, rfl⟩ := bookAt_shape hD.bookAt
      have by2 : Below wr.heap.size wr w2 := (below1 _ _).trans (hbD.mono (by simp))
      have H2 : Hid (RunInv w w2 w1.heap.size (w1.heap.size + 1) u k B X sl K s Kb ∧ OwnBook w2 wr.heap.size (bookV (doP (rB B X k) (X k)).2 ⟨ao2, co2, al2, cl2, ac2, cc2⟩) (doP (rB B X k) (X k)).2 KD ∧ Below wr.heap.size wr w2) := ⟨HR.out.1.below by2, hD.mono (by simp), by2⟩
      have z2 : w1.heap.size < w2.heap.size := Nat.lt_of_lt_of_le zP by2.size
      clear p0 p1 p2 p3 x0 x1 x2 x3 x4 x5 hD hbD by2 lb
      obtain ⟨p0, p1, p2, p3⟩ := box_cells H2.out.1.box
      have fP : ∀ i, w2.frozen? ⟨w1.heap.size, i, none⟩ = false := fun i => frozen_of_box H2.out.1.box
      have fP0 := fP 0
      have fP1 := fP 1
      have fP2 := fP 2
      have fP3 := fP 3
      clear fP
      by_cases h1 : (doP (rB B X k) (X k)).1 = 1
      · skip
        have t1' : ((doP (rB B X k) (X k)).1 == 1) = true := by rw [h1]; rfl
        have H1 : Hid ((doP (rB B X k) (X k)).1 = 1) := h1
        clear h1
        go_wp2_with fail
        have sA := below1 w2 (.cells #[.int .i64 (doP (rB B X k) (X k)).1, .int .i64 (doP (rB B X k) (X k)).2.n, .slice ao2 (doP (rB B X k) (X k)).2.orders.length co2, .slice al2 (doP (rB B X k) (X k)).2.locked.length cl2, .slice ac2 (doP (rB B X k) (X k)).2.occ.length cc2] 35)
        have tny := tiny_rB HB.out.1 X k
        have sml := small_rB HB.out.1 HB.out.2.1 X k
        refine (l2copy_any _ (rB B X k) _ sml.1 (fun i hi => (sml.2 i hi).1) (by have := tny.l; omega) (by have := tny.c; omega) (H2.out.1.own.bookAt.below sA)).mono ?_
        clear tny sml
        rintro e w3 ⟨v3, rfl, ⟨K3, hrow⟩, hb3⟩
        obtain ⟨ao3, co3, al3, cl3, ac3, cc3, hv3, -⟩ := hrow.own.shape
        subst hv3
        have szA : (w2.alloc (.cells #[.int .i64 (doP (rB B X k) (X k)).1, .int .i64 (doP (rB B X k) (X k)).2.n, .slice ao2 (doP (rB B X k) (X k)).2.orders.length co2, .slice al2 (doP (rB B X k) (X k)).2.locked.length cl2, .slice ac2 (doP (rB B X k) (X k)).2.occ.length cc2] 35)).heap.size = w2.heap.size + 1 := alloc_size _ _
        have z3 : w2.heap.size + 1 ≤ w3.heap.size := by have := hb3.size; omega
        have xQ : w3.heap[w2.heap.size]? = some (.cells #[.int .i64 (doP (rB B X k) (X k)).1, .int .i64 (doP (rB B X k) (X k)).2.n, .slice ao2 (doP (rB B X k) (X k)).2.orders.length co2, .slice al2 (doP (rB B X k) (X k)).2.locked.length cl2, .slice ac2 (doP (rB B X k) (X k)).2.occ.length cc2] 35 (0, 0)) := (hb3.block _ (by omega)).trans (Deep.blk_alloc_new _ _)
        have xP := (hb3.block _ (by omega : w1.heap.size < (w2.alloc (.cells #[.int .i64 (doP (rB B X k) (X k)).1, .int .i64 (doP (rB B X k) (X k)).2.n, .slice ao2 (doP (rB B X k) (X k)).2.orders.length co2, .slice al2 (doP (rB B X k) (X k)).2.locked.length cl2, .slice ac2 (doP (rB B X k) (X k)).2.occ.length cc2] 35)).heap.size)).trans ((sA.block _ z2).trans H2.out.1.box)
        have b23 : Below w2.heap.size w2 w3 := sA.trans (hb3.mono (by omega))
        have br3 : Below wr.heap.size wr w3 := below_trans H2.out.2.2 H2.out.2.2.size b23
        have HQ : Hid (OwnBook w3 (w2.heap.size + 1) (bookV (rB B X k) (⟨ao3, co3, al3, cl3, ac3, cc3⟩ : Sl)) (rB B X k) K3 ∧ Below wr.heap.size wr w3 ∧ w3.heap[w1.heap.size]? = some (.cells #[.int .i64 (rB B X k).n, .slice s.ao (rB B X k).orders.length s.co, .slice s.al (rB B X k).locked.length s.cl, .slice s.ac (rB B X k).occ.length s.cc] 33 (0, 0)) ∧ wr.heap.size ≤ w2.heap.size) := ⟨by rw [← szA]; exact hrow.own, br3, xP, H2.out.2.2.size⟩
        clear p0 p1 p2 p3 fP0 fP1 fP2 fP3 sA hrow hb3 szA b23 br3
        obtain ⟨p0, p1, p2, p3⟩ := box_cells xP
        obtain ⟨q0, q1, q2, q3, q4⟩ := dcells xQ
        have fP : ∀ i, w3.frozen? ⟨w1.heap.size, i, none⟩ = false := fun i => frozen_of_box xP
        have fQ : ∀ i, w3.frozen? ⟨w2.heap.size, i, none⟩ = false := fun i => frozen_of_box xQ
        have fP0 := fP 0
        have fP1 := fP 1
        have fP2 := fP 2
        have fP3 := fP 3
        have fQ1 := fQ 1
        have fQ2 := fQ 2
        have fQ3 := fQ 3
        have fQ4 := fQ 4
        have nQP : w2.heap.size ≠ w1.heap.size := by omega
        clear fP fQ xP xQ
        go_wp2_with (at_builtin; refine stand ?_)
        refine Stand.go ?_
        have hCh : ((((((((w3.setCell ⟨w2.heap.size, 1, none⟩ (.int .i64 (rB B X k).n)).setCell ⟨w2.heap.size, 2, none⟩ (.slice ao3 (rB B X k).orders.length co3)).setCell ⟨w2.heap.size, 3, none⟩ (.slice al3 (rB B X k).locked.length cl3)).setCell ⟨w2.heap.size, 4, none⟩ (.slice ac3 (rB B X k).occ.length cc3)).setCell ⟨w1.heap.size, 0, none⟩ (.int .i64 (rB B X k).n)).setCell ⟨w1.heap.size, 1, none⟩ (.slice ao3 (rB B X k).orders.length co3)).setCell ⟨w1.heap.size, 2, none⟩ (.slice al3 (rB B X k).locked.length cl3)).setCell ⟨w1.heap.size, 3, none⟩ (.slice ac3 (rB B X k).occ.length cc3)) = putBook (putQ w3 w2.heap.size (rB B X k) (⟨ao3, co3, al3, cl3, ac3, cc3⟩ : Sl)) w1.heap.size (rB B X k) (⟨ao3, co3, al3, cl3, ac3, cc3⟩ : Sl) := rfl
        rw [hCh]
        clear hCh
        obtain ⟨Y, hY⟩ : ∃ Y, Y = putBook (putQ w3 w2.heap.size (rB B X k) (⟨ao3, co3, al3, cl3, ac3, cc3⟩ : Sl)) w1.heap.size (rB B X k) (⟨ao3, co3, al3, cl3, ac3, cc3⟩ : Sl) := ⟨_, rfl⟩
        rw [← hY]
        have lows : ∀ x, bookBlocks (rB B X k) K3 x → x ≠ w2.heap.size := fun x hx => by have := HQ.out.1.blocks_low hx; omega
        have fY : Fr (fun x => x = w1.heap.size) wr Y := by rw [hY]; exact (Fr.of_below (putQ_below HQ.out.2.1 HQ.out.2.2.2)).trans (putBook_fr _ w1.heap.size (rB B X k) (⟨ao3, co3, al3, cl3, ac3, cc3⟩ : Sl))
        have oY : OwnBook Y wr.heap.size (bookV (rB B X k) (⟨ao3, co3, al3, cl3, ac3, cc3⟩ : Sl)) (rB B X k) K3 := by rw [hY]; exact ((putQ_own HQ.out.1 lows).fr (putBook_fr _ w1.heap.size (rB B X k) (⟨ao3, co3, al3, cl3, ac3, cc3⟩ : Sl)) (fun x hx e => by have := HQ.out.1.blocks_low hx; omega)).mono (by have := HQ.out.2.2.2; omega)
        have xY : Y.heap[w1.heap.size]? = some (.cells #[.int .i64 (rB B X k).n, .slice ao3 (rB B X k).orders.length co3, .slice al3 (rB B X k).locked.length cl3, .slice ac3 (rB B X k).occ.length cc3] 33 (0, 0)) := by rw [hY]; exact putBook_box ((putQ_other nQP.symm).trans HQ.out.2.2.1)
        have sY : Y.heap.size = w3.heap.size := by rw [hY]; exact (putBook_size _ _ _ _).trans (putQ_size _ _ _ _)
        clear hY lows p0 p1 p2 p3 fP0 fP1 fP2 fP3 q0 q1 q2 q3 q4 fQ1 fQ2 fQ3 fQ4 nQP
        have s2 : (Y.alloc (.cells #[.int .i64 (doP (rB B X k) (X k)).1, .int .i64 (rB B X k).n, .slice ao3 (rB B X k).orders.length co3, .slice al3 (rB B X k).locked.length cl3, .slice ac3 (rB B X k).occ.length cc3] 35)).heap.size = w3.heap.size + 1 := (alloc_size _ _).trans (by rw [sY])
        have hf : Fr (fun x => x = w1.heap.size) wr (Y.alloc (.cells #[.int .i64 (doP (rB B X k) (X k)).1, .int .i64 (rB B X k).n, .slice ao3 (rB B X k).orders.length co3, .slice al3 (rB B X k).locked.length cl3, .slice ac3 (rB B X k).occ.length cc3] 35)) := fY.alloc _
        have hBV : OwnBook (Y.alloc (.cells #[.int .i64 (doP (rB B X k) (X k)).1, .int .i64 (rB B X k).n, .slice ao3 (rB B X k).orders.length co3, .slice al3 (rB B X k).locked.length cl3, .slice ac3 (rB B X k).occ.length cc3] 35)) wr.heap.size (bookV (rB B X k) (⟨ao3, co3, al3, cl3, ac3, cc3⟩ : Sl)) (rB B X k) K3 := oY.below (below1 Y (.cells #[.int .i64 (doP (rB B X k) (X k)).1, .int .i64 (rB B X k).n, .slice ao3 (rB B X k).orders.length co3, .slice al3 (rB B X k).locked.length cl3, .slice ac3 (rB B X k).occ.length cc3] 35))
        have yPV : (Y.alloc (.cells #[.int .i64 (doP (rB B X k) (X k)).1, .int .i64 (rB B X k).n, .slice ao3 (rB B X k).orders.length co3, .slice al3 (rB B X k).locked.length cl3, .slice ac3 (rB B X k).occ.length cc3] 35)).heap[w1.heap.size]? = some (.cells #[.int .i64 (rB B X k).n, .slice ao3 (rB B X k).orders.length co3, .slice al3 (rB B X k).locked.length cl3, .slice ac3 (rB B X k).occ.length cc3] 33 (0, 0)) := by
          rw [Deep.blk_alloc_lt _ _ _ (by omega)]
          exact xY
        have hn : (Y.alloc (.cells #[.int .i64 (doP (rB B X k) (X k)).1, .int .i64 (rB B X k).n, .slice ao3 (rB B X k).orders.length co3, .slice al3 (rB B X k).locked.length cl3, .slice ac3 (rB B X k).occ.length cc3] 35)).heap[w3.heap.size]? = some (.cells #[.int .i64 (doP (rB B X k) (X k)).1, .int .i64 (rB B X k).n, .slice ao3 (rB B X k).orders.length co3, .slice al3 (rB B X k).locked.length cl3, .slice ac3 (rB B X k).occ.length cc3] 35 (0, 0)) := by
          rw [← sY]
          exact Deep.blk_alloc_new _ _
        have zV : w3.heap.size < (Y.alloc (.cells #[.int .i64 (doP (rB B X k) (X k)).1, .int .i64 (rB B X k).n, .slice ao3 (rB B X k).orders.length co3, .slice al3 (rB B X k).locked.length cl3, .slice ac3 (rB B X k).occ.length cc3] 35)).heap.size := by omega
        clear fY oY xY sY s2

        obtain ⟨V, hV⟩ : ∃ V, V = (Y.alloc (.cells #[.int .i64 (doP (rB B X k) (X k)).1, .int .i64 (rB B X k).n, .slice ao3 (rB B X k).orders.length co3, .slice al3 (rB B X k).locked.length cl3, .slice ac3 (rB B X k).occ.length cc3] 35)) := ⟨_, rfl⟩
        rw [← hV] at hf hBV yPV hn zV ⊢
        clear hV
        have n4 : ∀ j u', (cellsD (doP (rB B X k) (X k)).1 (rB B X k) (⟨ao3, co3, al3, cl3, ac3, cc3⟩ : Sl))[j]? = some u' → V.cell? ((⟨w3.heap.size, 0, none⟩ : Addr).add j) = some u' := by
          intro j u' hu
          rw [add0]
          refine cell_of_box hn ?_
          rw [← Array.getElem?_toList]
          exact hu
        have R4 : RowDones V (w1.heap.size + 1) u k (rC B X) (fun i => rB B X (i + 1)) sl K := HR.out.1.row.fr hf (fun x hx e => by omega)
        have szV : wr.heap.size ≤ V.heap.size := hf.size
        have hlw := HR.out.1.lw
        refine wpList_append_own_at _ rfl _ _ 49 rfl (w1.heap.size + 1) 35 id _ 5 88 Tryz.underlying49 hid zd0 zd1 zd2 rfl (by decide) u k (flatD (rC B X) (fun i => rB B X (i + 1)) sl k) rfl R4.row ⟨w3.heap.size, 0, none⟩ 1 1 (cellsD (doP (rB B X k) (X k)).1 (rB B X k) (⟨ao3, co3, al3, cl3, ac3, cc3⟩ : Sl)) rfl rfl n4 ?_ (by unfold maxLen; omega) (by omega) (by omega) ?_
        · intro x hx
          simp only [cellsD, List.mem_cons, List.not_mem_nil, or_false] at hx
          rcases hx with rfl | rfl | rfl | rfl | rfl <;> rfl
        intro vU wU hownU hgU _ hbU
        have HU : Hid (RunInv w wU w1.heap.size (w1.heap.size + 1) vU (k + 1) B X (put1 sl k (⟨ao3, co3, al3, cl3, ac3, cc3⟩ : Sl)) (put1 K k K3) (⟨ao3, co3, al3, cl3, ac3, cc3⟩ : Sl) K3) := HR.out.1.step hf (by simp only [rB]; rw [if_pos H1.out]) rfl yPV hBV hownU hgU hbU
        obtain ⟨adU, cU, GU, rfl, -, -⟩ := HU.out.row.done
        clear hownU hgU hbU n4 R4 szV hf hBV yPV hn zV HR H2 H1 t1' z2 zP HQ z3
        go_wp2
        go_roundw
        case rel => exact ⟨k + 1, _, _, _, _, _, by omega, by go_num, rfl, HU.out⟩
        case measure => simp [intOf]; omega
      · skip
        have t1' : ((doP (rB B X k) (X k)).1 == 1) = false := by simpa using h1
        have H1 : Hid (¬ (doP (rB B X k) (X k)).1 = 1) := h1
        clear h1
        go_wp2_with (at_builtin; refine stand ?_)
        refine Stand.go ?_
        have hCh : ((((w2.setCell ⟨w1.heap.size, 0, none⟩ (.int .i64 (doP (rB B X k) (X k)).2.n)).setCell ⟨w1.heap.size, 1, none⟩ (.slice ao2 (doP (rB B X k) (X k)).2.orders.length co2)).setCell ⟨w1.heap.size, 2, none⟩ (.slice al2 (doP (rB B X k) (X k)).2.locked.length cl2)).setCell ⟨w1.heap.size, 3, none⟩ (.slice ac2 (doP (rB B X k) (X k)).2.occ.length cc2)) = putBook w2 w1.heap.size (doP (rB B X k) (X k)).2 (⟨ao2, co2, al2, cl2, ac2, cc2⟩ : Sl) := rfl
        rw [hCh]
        clear hCh
        obtain ⟨Y, hY⟩ : ∃ Y, Y = putBook w2 w1.heap.size (doP (rB B X k) (X k)).2 (⟨ao2, co2, al2, cl2, ac2, cc2⟩ : Sl) := ⟨_, rfl⟩
        rw [← hY]
        have fY : Fr (fun x => x = w1.heap.size) wr Y := by rw [hY]; exact (Fr.of_below H2.out.2.2).trans (putBook_fr w2 w1.heap.size (doP (rB B X k) (X k)).2 (⟨ao2, co2, al2, cl2, ac2, cc2⟩ : Sl))
        have oY : OwnBook Y wr.heap.size (bookV (doP (rB B X k) (X k)).2 (⟨ao2, co2, al2, cl2, ac2, cc2⟩ : Sl)) (doP (rB B X k) (X k)).2 KD := by rw [hY]; exact H2.out.2.1.fr (putBook_fr w2 w1.heap.size (doP (rB B X k) (X k)).2 (⟨ao2, co2, al2, cl2, ac2, cc2⟩ : Sl)) (fun x hx e => by have := H2.out.2.1.blocks_low hx; omega)
        have xY : Y.heap[w1.heap.size]? = some (.cells #[.int .i64 (doP (rB B X k) (X k)).2.n, .slice ao2 (doP (rB B X k) (X k)).2.orders.length co2, .slice al2 (doP (rB B X k) (X k)).2.locked.length cl2, .slice ac2 (doP (rB B X k) (X k)).2.occ.length cc2] 33 (0, 0)) := by rw [hY]; exact putBook_box H2.out.1.box
        have sY : Y.heap.size = w2.heap.size := by rw [hY]; exact putBook_size _ _ _ _
        clear hY p0 p1 p2 p3 fP0 fP1 fP2 fP3
        have s1 : (Y.alloc (.cells #[.int .i64 (doP (rB B X k) (X k)).1, .int .i64 (doP (rB B X k) (X k)).2.n, .slice ao2 (doP (rB B X k) (X k)).2.orders.length co2, .slice al2 (doP (rB B X k) (X k)).2.locked.length cl2, .slice ac2 (doP (rB B X k) (X k)).2.occ.length cc2] 35)).heap.size = w2.heap.size + 1 := (alloc_size _ _).trans (by rw [sY])
        have s2 : ((Y.alloc (.cells #[.int .i64 (doP (rB B X k) (X k)).1, .int .i64 (doP (rB B X k) (X k)).2.n, .slice ao2 (doP (rB B X k) (X k)).2.orders.length co2, .slice al2 (doP (rB B X k) (X k)).2.locked.length cl2, .slice ac2 (doP (rB B X k) (X k)).2.occ.length cc2] 35)).alloc (.cells #[.int .i64 (doP (rB B X k) (X k)).1, .int .i64 (doP (rB B X k) (X k)).2.n, .slice ao2 (doP (rB B X k) (X k)).2.orders.length co2, .slice al2 (doP (rB B X k) (X k)).2.locked.length cl2, .slice ac2 (doP (rB B X k) (X k)).2.occ.length cc2] 35)).heap.size = w2.heap.size + 2 := (alloc_size _ _).trans (by rw [s1])
        have hf : Fr (fun x => x = w1.heap.size) wr ((Y.alloc (.cells #[.int .i64 (doP (rB B X k) (X k)).1, .int .i64 (doP (rB B X k) (X k)).2.n, .slice ao2 (doP (rB B X k) (X k)).2.orders.length co2, .slice al2 (doP (rB B X k) (X k)).2.locked.length cl2, .slice ac2 (doP (rB B X k) (X k)).2.occ.length cc2] 35)).alloc (.cells #[.int .i64 (doP (rB B X k) (X k)).1, .int .i64 (doP (rB B X k) (X k)).2.n, .slice ao2 (doP (rB B X k) (X k)).2.orders.length co2, .slice al2 (doP (rB B X k) (X k)).2.locked.length cl2, .slice ac2 (doP (rB B X k) (X k)).2.occ.length cc2] 35)) := (fY.alloc _).alloc _
        have hBV : OwnBook ((Y.alloc (.cells #[.int .i64 (doP (rB B X k) (X k)).1, .int .i64 (doP (rB B X k) (X k)).2.n, .slice ao2 (doP (rB B X k) (X k)).2.orders.length co2, .slice al2 (doP (rB B X k) (X k)).2.locked.length cl2, .slice ac2 (doP (rB B X k) (X k)).2.occ.length cc2] 35)).alloc (.cells #[.int .i64 (doP (rB B X k) (X k)).1, .int .i64 (doP (rB B X k) (X k)).2.n, .slice ao2 (doP (rB B X k) (X k)).2.orders.length co2, .slice al2 (doP (rB B X k) (X k)).2.locked.length cl2, .slice ac2 (doP (rB B X k) (X k)).2.occ.length cc2] 35)) wr.heap.size (bookV (doP (rB B X k) (X k)).2 (⟨ao2, co2, al2, cl2, ac2, cc2⟩ : Sl)) (doP (rB B X k) (X k)).2 KD := (oY.below (below1 Y (.cells #[.int .i64 (doP (rB B X k) (X k)).1, .int .i64 (doP (rB B X k) (X k)).2.n, .slice ao2 (doP (rB B X k) (X k)).2.orders.length co2, .slice al2 (doP (rB B X k) (X k)).2.locked.length cl2, .slice ac2 (doP (rB B X k) (X k)).2.occ.length cc2] 35))).below (below1 (Y.alloc (.cells #[.int .i64 (doP (rB B X k) (X k)).1, .int .i64 (doP (rB B X k) (X k)).2.n, .slice ao2 (doP (rB B X k) (X k)).2.orders.length co2, .slice al2 (doP (rB B X k) (X k)).2.locked.length cl2, .slice ac2 (doP (rB B X k) (X k)).2.occ.length cc2] 35)) (.cells #[.int .i64 (doP (rB B X k) (X k)).1, .int .i64 (doP (rB B X k) (X k)).2.n, .slice ao2 (doP (rB B X k) (X k)).2.orders.length co2, .slice al2 (doP (rB B X k) (X k)).2.locked.length cl2, .slice ac2 (doP (rB B X k) (X k)).2.occ.length cc2] 35))
        have yPV : ((Y.alloc (.cells #[.int .i64 (doP (rB B X k) (X k)).1, .int .i64 (doP (rB B X k) (X k)).2.n, .slice ao2 (doP (rB B X k) (X k)).2.orders.length co2, .slice al2 (doP (rB B X k) (X k)).2.locked.length cl2, .slice ac2 (doP (rB B X k) (X k)).2.occ.length cc2] 35)).alloc (.cells #[.int .i64 (doP (rB B X k) (X k)).1, .int .i64 (doP (rB B X k) (X k)).2.n, .slice ao2 (doP (rB B X k) (X k)).2.orders.length co2, .slice al2 (doP (rB B X k) (X k)).2.locked.length cl2, .slice ac2 (doP (rB B X k) (X k)).2.occ.length cc2] 35)).heap[w1.heap.size]? = some (.cells #[.int .i64 (doP (rB B X k) (X k)).2.n, .slice ao2 (doP (rB B X k) (X k)).2.orders.length co2, .slice al2 (doP (rB B X k) (X k)).2.locked.length cl2, .slice ac2 (doP (rB B X k) (X k)).2.occ.length cc2] 33 (0, 0)) := by
          rw [Deep.blk_alloc_lt _ _ _ (by omega), Deep.blk_alloc_lt _ _ _ (by omega)]
          exact xY
        have hn : ((Y.alloc (.cells #[.int .i64 (doP (rB B X k) (X k)).1, .int .i64 (doP (rB B X k) (X k)).2.n, .slice ao2 (doP (rB B X k) (X k)).2.orders.length co2, .slice al2 (doP (rB B X k) (X k)).2.locked.length cl2, .slice ac2 (doP (rB B X k) (X k)).2.occ.length cc2] 35)).alloc (.cells #[.int .i64 (doP (rB B X k) (X k)).1, .int .i64 (doP (rB B X k) (X k)).2.n, .slice ao2 (doP (rB B X k) (X k)).2.orders.length co2, .slice al2 (doP (rB B X k) (X k)).2.locked.length cl2, .slice ac2 (doP (rB B X k) (X k)).2.occ.length cc2] 35)).heap[w2.heap.size + 1]? = some (.cells #[.int .i64 (doP (rB B X k) (X k)).1, .int .i64 (doP (rB B X k) (X k)).2.n, .slice ao2 (doP (rB B X k) (X k)).2.orders.length co2, .slice al2 (doP (rB B X k) (X k)).2.locked.length cl2, .slice ac2 (doP (rB B X k) (X k)).2.occ.length cc2] 35 (0, 0)) := by
          rw [← s1]
          exact Deep.blk_alloc_new _ _
        have zV : w2.heap.size + 1 < ((Y.alloc (.cells #[.int .i64 (doP (rB B X k) (X k)).1, .int .i64 (doP (rB B X k) (X k)).2.n, .slice ao2 (doP (rB B X k) (X k)).2.orders.length co2, .slice al2 (doP (rB B X k) (X k)).2.locked.length cl2, .slice ac2 (doP (rB B X k) (X k)).2.occ.length cc2] 35)).alloc (.cells #[.int .i64 (doP (rB B X k) (X k)).1, .int .i64 (doP (rB B X k) (X k)).2.n, .slice ao2 (doP (rB B X k) (X k)).2.orders.length co2, .slice al2 (doP (rB B X k) (X k)).2.locked.length cl2, .slice ac2 (doP (rB B X k) (X k)).2.occ.length cc2] 35)).heap.size := by omega
        clear fY oY xY sY s1 s2

        obtain ⟨V, hV⟩ : ∃ V, V = ((Y.alloc (.cells #[.int .i64 (doP (rB B X k) (X k)).1, .int .i64 (doP (rB B X k) (X k)).2.n, .slice ao2 (doP (rB B X k) (X k)).2.orders.length co2, .slice al2 (doP (rB B X k) (X k)).2.locked.length cl2, .slice ac2 (doP (rB B X k) (X k)).2.occ.length cc2] 35)).alloc (.cells #[.int .i64 (doP (rB B X k) (X k)).1, .int .i64 (doP (rB B X k) (X k)).2.n, .slice ao2 (doP (rB B X k) (X k)).2.orders.length co2, .slice al2 (doP (rB B X k) (X k)).2.locked.length cl2, .slice ac2 (doP (rB B X k) (X k)).2.occ.length cc2] 35)) := ⟨_, rfl⟩
        rw [← hV] at hf hBV yPV hn zV ⊢
        clear hV
        have n4 : ∀ j u', (cellsD (doP (rB B X k) (X k)).1 (doP (rB B X k) (X k)).2 (⟨ao2, co2, al2, cl2, ac2, cc2⟩ : Sl))[j]? = some u' → V.cell? ((⟨w2.heap.size + 1, 0, none⟩ : Addr).add j) = some u' := by
          intro j u' hu
          rw [add0]
          refine cell_of_box hn ?_
          rw [← Array.getElem?_toList]
          exact hu
        have R4 : RowDones V (w1.heap.size + 1) u k (rC B X) (fun i => rB B X (i + 1)) sl K := HR.out.1.row.fr hf (fun x hx e => by omega)
        have szV : wr.heap.size ≤ V.heap.size := hf.size
        have hlw := HR.out.1.lw
        refine wpList_append_own_at _ rfl _ _ 49 rfl (w1.heap.size + 1) 35 id _ 5 88 Tryz.underlying49 hid zd0 zd1 zd2 rfl (by decide) u k (flatD (rC B X) (fun i => rB B X (i + 1)) sl k) rfl R4.row ⟨w2.heap.size + 1, 0, none⟩ 1 1 (cellsD (doP (rB B X k) (X k)).1 (doP (rB B X k) (X k)).2 (⟨ao2, co2, al2, cl2, ac2, cc2⟩ : Sl)) rfl rfl n4 ?_ (by unfold maxLen; omega) (by omega) (by omega) ?_
        · intro x hx
          simp only [cellsD, List.mem_cons, List.not_mem_nil, or_false] at hx
          rcases hx with rfl | rfl | rfl | rfl | rfl <;> rfl
        intro vU wU hownU hgU _ hbU
        have HU : Hid (RunInv w wU w1.heap.size (w1.heap.size + 1) vU (k + 1) B X (put1 sl k (⟨ao2, co2, al2, cl2, ac2, cc2⟩ : Sl)) (put1 K k KD) (⟨ao2, co2, al2, cl2, ac2, cc2⟩ : Sl) KD) := HR.out.1.step hf (by simp only [rB]; rw [if_neg H1.out]) rfl yPV hBV hownU hgU hbU
        obtain ⟨adU, cU, GU, rfl, -, -⟩ := HU.out.row.done
        clear hownU hgU hbU n4 R4 szV hf hBV yPV hn zV HR H2 H1 t1' z2 zP
        go_wp2
        go_roundw
        case rel => exact ⟨k + 1, _, _, _, _, _, by omega, by go_num, rfl, HU.out⟩
        case measure => simp [intOf]; omega
    · obtain rfl : k = n := by omega
      have HR : Hid (RunInv w wr w1.heap.size (w1.heap.size + 1) u k B X sl K s Kb) := hi
      obtain ⟨ad', c', G', rfl, ha, hd⟩ := hi.row.done
      have HD : Hid (OwnDones wr (w1.heap.size + 1) k (rC B X) (fun i => rB B X (i + 1)) G' sl K) := hd
      clear hi hd
      go_wp2
      go_ret
      refine ⟨k, ad', c', G', sl, K, Or.inl ⟨HO.out, rfl⟩, rfl, ha, ?_, HR.out.bel⟩
      rw [← HBe.out]
      exact HD.out.mono (by have := HR.out.wP; omega)

end Go.Proofs.YtbgmgfnhmlpehabGreatDoor

/-
  The contract of impl.Run. Mine, by program (wip/irun.py), by template (wip/gen.py).
-/
namespace Go.Proofs.YtbgmgfnhmlpehabGreatDoor
open Go.RowKit

/-- Event k is behind: its Done is appended, and then the book's variable is set. -/
theorem RunInv.step2 {w wr V wU : World} {P lo : Nat} {u u2 : Value} {k : Nat} {B : Bk} {X : Nat → Ev} {sl : Nat → Sl} {K : Nat → Blk} {s : Sl} {Kb : Blk} (h : RunInv w wr P lo u k B X sl K s Kb) (hbV : Below wr.heap.size wr V) {s' : Sl} {K' : Blk} {R : Bk} (hR : rB B X (k + 1) = R) {c : Int} (hc : rC B X k = c)
    (hB : OwnBook V wr.heap.size (bookV R s') R K')
    (h2 : wU.ownsRow lo 35 5 u2 (k + 1) (flatD (rC B X) (fun i => rB B X (i + 1)) sl k ++ cellsD c R s')) (hg : V.grownBy wU u.ownBlock) (hk : u2.ownBlock = u.ownBlock ∨ u2.ownBlock = some V.heap.size) :
    RunInv w (putBook wU P R s') P lo u2 (k + 1) B X (put1 sl k s') (put1 K k K') s' K' := by
  subst hR
  subst hc
  have hw := h.wP
  have hp := h.pl
  have hl := h.lw
  have hz := hbV.size
  have hlow : ∀ x, bookBlocks (rB B X (k + 1)) K' x → wr.heap.size ≤ x ∧ x < V.heap.size := fun x hx => ⟨hB.blocks_low hx, hB.blocks_lt hx⟩
  have ub : ∀ g, u.ownBlock = some g → lo ≤ g ∧ g < wr.heap.size := fun g hg => owns_lt h.row.row hg
  have rD : RowDones V lo u k (rC B X) (fun i => rB B X (i + 1)) sl K := h.row.below hbV
  have oD : OwnBook V lo (bookV (rB B X (k + 1)) s') (rB B X (k + 1)) K' := hB.mono hl
  have hgf : Fr (fun x => u.ownBlock = some x) V wU := ⟨hg.os, hg.tape, hg.output, hg.size, fun j hj hn => hg.block j hj (fun e => hn e.symm)⟩
  have push := rD.push (rC B X k) (rB B X (k + 1)) s' K' oD (fun x hx e => by have := (hlow x hx).1; have := (ub x e).2; omega) (fun i hi x hx hx' => by have := (hlow x hx').1; have := (h.row.own i hi).blocks_lt hx; omega) h2 hg hk
  rw [put1_same, show put1 (fun i => rB B X (i + 1)) k (rB B X (k + 1)) = fun i => rB B X (i + 1) from put1_same _ _] at push
  have pf := putBook_fr wU P (rB B X (k + 1)) s'
  have b1 : Below w.heap.size w wU := (h.bel.trans (hbV.mono h.bel.size)).trans (hgf.below (by have := h.bel.size; omega) (fun x e => by have := (ub x e).1; omega))
  refine ⟨?_, ?_, ?_, fun x hx => ⟨fun e => ?_, by have := (hlow x hx).1; omega⟩, push.fr pf (fun x hx e => by omega), hw, hp, ?_⟩
  · exact b1.trans (pf.below (by have := b1.size; omega) (fun x e => by omega))
  · exact putBook_box ((hgf.block P (by omega) (fun e => by have := (ub P e).1; omega)).trans ((hbV.block P (by omega)).trans h.box))
  · exact ((oD.fr hgf (fun x hx e => by have := (hlow x hx).1; have := (ub x e).2; omega)).fr pf (fun x hx e => by have := (hlow x hx).1; omega)).mono (by omega)
  · rcases hk with q | q
    · rw [q] at e; have := (ub x e).2; have := (hlow x hx).1; omega
    · rw [q] at e; have := Option.some.inj e; have := (hlow x hx).2; omega
  · have := hgf.size; have := pf.size; omega

theorem codeN_one {o : Option Nat} (h : ErrOk o) : codeN o = 1 ↔ o = some 0 := by
  rcases h with rfl | rfl | rfl | rfl | rfl | rfl | rfl | rfl | rfl <;> simp [codeN]
theorem ErrOk.lt {o : Option Nat} (h : ErrOk o) : ∀ k, o = some k → k < 8 := fun k e => by
  subst e
  rcases h with h | h | h | h | h | h | h | h | h <;> simp at h <;> omega

set_option maxHeartbeats 8000000 in
set_option maxRecDepth 20000 in
theorem implRun_any (A : Nat → Addr) (sct : Int) (ad : Option Addr) (c n : Nat) (X : Nat → Ev) (w : World) (hE : Errs w A) (hT : Lib.TabIs Tryz.prog w "internal/strconv.uint64pow10" .u64 Lib.pow10Tab) (hn : n ≤ 1048576) (hX : ∀ i, i < n → (X i).holder.size ≤ 1048576 ∧ (X i).text.size ≤ 1048576 ∧ (X i).secs.length ≤ 1048576) (G : EventsAt w ad n X) :
    Calls Tryz.prog 22 #[.int .i64 sct, .slice ad n c] w fun e w' => RetRun e w w' sct n X := by
  have HG : Hid (EventsAt w ad n X ∧ ∀ i, i < n → (X i).holder.size ≤ 1048576 ∧ (X i).text.size ≤ 1048576 ∧ (X i).secs.length ≤ 1048576) := ⟨G, hX⟩
  have HE : Hid (Errs w A ∧ Lib.TabIs Tryz.prog w "internal/strconv.uint64pow10" .u64 Lib.pow10Tab) := ⟨hE, hT⟩
  clear G hX hE hT
  obtain ⟨id, hid, zd0, zd1, zd2⟩ := info_parts Tryz.infoDone
  go_enter Tryz.func22, Tryz.ntmps22
  go_wp2_with fail
  refine (sectionCountOk_any sct _).mono ?_
  rintro e w' ⟨hr, hw'⟩
  obtain rfl := hw'.symm
  rcases hr.cases with ⟨rfl, hs⟩ | ⟨rfl, hs⟩
  case inr =>
    have HN : Hid (¬ runOk sct n) := fun q => hs q.1
    clear hs hr
    go_wp2
    go_ret
    exact ⟨0, none, 0, 0, fun _ => ⟨none, 0, none, 0, none, 0⟩, fun _ => ⟨0, fun _ => 0, fun _ => none, fun _ => 0, 0, 0⟩, Or.inr ⟨HN.out, rfl⟩, rfl, fun h => absurd h (by omega), ownDones_nil _ _ _ _ _ _ _, Below.refl _ _⟩
  by_cases h1000 : 1000 < n
  · have HN : Hid (¬ runOk sct n) := fun q => by have := q.2; omega
    have t1 : (1000 : Int) < (n : Int) := by omega
    clear hs hr h1000
    go_wp2
    go_ret
    exact ⟨0, none, 0, 0, fun _ => ⟨none, 0, none, 0, none, 0⟩, fun _ => ⟨0, fun _ => 0, fun _ => none, fun _ => 0, 0, 0⟩, Or.inr ⟨HN.out, rfl⟩, rfl, fun h => absurd h (by omega), ownDones_nil _ _ _ _ _ _ _, Below.refl _ _⟩
  have HO' : Hid (runOk sct n) := ⟨hs, by omega⟩
  have HB : Hid (Tiny (beginBk sct) ∧ Names (beginBk sct) ∧ -9223372036854775808 ≤ (beginBk sct).n ∧ (beginBk sct).n ≤ 9223372036854775807) := begin_tiny sct
  have t1 : ¬ (1000 : Int) < (n : Int) := by omega
  have hn1 : n ≤ 1000 := by omega
  clear hs hr h1000
  go_wp2_with fail
  refine (implBegin_any sct w).mono ?_
  rintro e w1 ⟨v, rfl, ⟨K0, hB0⟩, hb⟩
  obtain ⟨ao, co, al, cl, ac, cc, hv, -⟩ := hB0.shape
  subst hv
  obtain ⟨B, hB⟩ : ∃ B, B = beginBk sct := ⟨_, rfl⟩
  rw [← hB] at hB0 HB ⊢
  have HBe : Hid (B = beginBk sct) := hB
  have H1 : Hid (OwnBook w1 w.heap.size (bookV B ⟨ao, co, al, cl, ac, cc⟩) B K0 ∧ Below w.heap.size w w1) := ⟨hB0, hb⟩
  clear hB0 hb hB
  go_wp2_with (at_make; refine stand ?_)
  refine Stand.go ?_
  refine wpList_make_own _ rfl _ _ 49 rfl (w1.heap.size + 1) 35 id _ 5 Tryz.underlying49 hid zd0 zd1 .i64 .i64 _ n rfl rfl rfl (by rw [zd2]; omega) (by unfold maxLen; omega) (by simp) ?_
  intro wM hownM hgM
  have szA : (w1.alloc (.cells #[.int .i64 B.n, .slice ao B.orders.length co, .slice al B.locked.length cl, .slice ac B.occ.length cc] 33)).heap.size = w1.heap.size + 1 := alloc_size _ _
  rw [szA] at hownM
  have bM : Below (w1.heap.size + 1) (w1.alloc (.cells #[.int .i64 B.n, .slice ao B.orders.length co, .slice al B.locked.length cl, .slice ac B.occ.length cc] 33)) wM := (show Fr (fun _ => False) (w1.alloc (.cells #[.int .i64 B.n, .slice ao B.orders.length co, .slice al B.locked.length cl, .slice ac B.occ.length cc] 33)) wM from ⟨hgM.os, hgM.tape, hgM.output, hgM.size, fun j hj _ => hgM.block j hj (by simp)⟩).below (by omega) (fun x e => e.elim)
  have HI : Hid (RunInv w wM w1.heap.size (w1.heap.size + 1) (.slice (some ⟨w1.heap.size + 1, 0, none⟩) 0 n) 0 B X (fun _ => ⟨none, 0, none, 0, none, 0⟩) (fun _ => K0) ⟨ao, co, al, cl, ac, cc⟩ K0) :=
    ⟨(H1.out.2.alloc H1.out.2.size _).trans (bM.mono (by have := H1.out.2.size; omega)), (bM.block _ (by omega)).trans (Deep.blk_alloc_new _ _), (H1.out.1.below (below1 _ _)).below (by rw [szA]; exact bM), fun x hx => ⟨fun e => by have := H1.out.1.blocks_lt hx; simp [Value.ownBlock] at e; omega, by have := H1.out.1.blocks_lt hx; omega⟩, ⟨hownM, fun i hi => absurd hi (by omega), fun i hi => absurd hi (by omega), fun i j hi => absurd hi (by omega)⟩, H1.out.2.size, by omega, by have := bM.size; omega⟩
  clear hownM hgM bM H1
  try rw [szA]
  clear szA
  go_wp2
  go_loopw [6, 26] (fun o i wr => ∃ (k : Nat) (u : Value) (sl : Nat → Sl) (K : Nat → Blk) (s : Sl) (Kb : Blk), k ≤ n ∧ i = .int .i64 k ∧ o = u ∧ RunInv w wr w1.heap.size (w1.heap.size + 1) u k B X sl K s Kb) (fun _ i _ => n - (intOf i).toNat)
  case atStart => exact ⟨0, _, _, _, _, _, Nat.zero_le _, rfl, rfl, HI.out⟩
  case round =>
    obtain ⟨k, u, sl, K0s, s, Kb, hk, rfl, ho, hi⟩ := hrel
    obtain rfl := ho.symm
    clear HI
    by_cases hlt : k < n
    · obtain ⟨b, oo, h2, g⟩ := HG.out.1
      obtain rfl := h2 (by omega)
      obtain ⟨sa, sc, q⟩ := g k hlt
      have hXk := HG.out.2 k hlt
      obtain ⟨x0, x1, x2, x3, x4, x5, x6⟩ := q.below hi.bel
      obtain ⟨p0, p1, p2, p3⟩ := box_cells hi.box
      have zP : w1.heap.size < wr.heap.size := by have := hi.pl; have := hi.lw; omega
      have lb : b < wr.heap.size := World.block_lt_of_cell? _ _ x0
      have HR : Hid (RunInv w wr w1.heap.size (w1.heap.size + 1) u k B X sl K0s s Kb ∧ Cells wr sa (X k).secs.length (iV (X k).secs)) := ⟨hi, x6⟩
      clear g h2 q hi x6
      go_wp2_with fail
      have sE := below1 wr (.cells #[.int .i64 (X k).op, .int .i64 (X k).of_, .string (X k).holder, .int .i64 (X k).kind, .slice sa (X k).secs.length sc, .string (X k).text] 38)
      have szE : (wr.alloc (.cells #[.int .i64 (X k).op, .int .i64 (X k).of_, .string (X k).holder, .int .i64 (X k).kind, .slice sa (X k).secs.length sc, .string (X k).text] 38)).heap.size = wr.heap.size + 1 := alloc_size _ _
      refine (behind_any A _ _ (rB B X k) (X k) _ ((HE.out.1.below HR.out.1.bel).below sE) (tab_below (tab_below HE.out.2 HR.out.1.bel) sE) (small_rB HB.out.1 HB.out.2.1 X k) hXk.1 hXk.2.1 hXk.2.2 (HR.out.1.own.bookAt.below sE) ⟨sa, sc, rfl, HR.out.2.below sE⟩).mono ?_
      rintro e w2 ⟨o, v2, KD, rfl, r1, r2, r3, r4⟩
      rw [szE] at r3 r4
      obtain ⟨ao2, co2, al2, cl2, ac2, cc2, hv2, -⟩ := r3.shape
      subst hv2
      have by2 : Below wr.heap.size wr w2 := sE.trans (r4.mono (by omega))
      have z2 : wr.heap.size + 1 ≤ w2.heap.size := by have := r4.size; omega
      have zP2 : w1.heap.size < w2.heap.size := by omega
      have eE : Errs w2 A := (HE.out.1.below HR.out.1.bel).below by2
      have v0 : w2.cell? ⟨0, 0, none⟩ = some (errV A 0) := eE.v 0 (by omega)
      have lv : 0 < w2.heap.size := World.block_lt_of_cell? _ _ v0
      have HO : Hid (ErrOk o ∧ codeN o = rC B X k) := ⟨r1, r2⟩
      have H2 : Hid (OwnBook w2 wr.heap.size (bookV (doP (rB B X k) (X k)).2 ⟨ao2, co2, al2, cl2, ac2, cc2⟩) (doP (rB B X k) (X k)).2 KD ∧ Below wr.heap.size wr w2) := ⟨r3.mono (by omega), by2⟩
      have xP := (by2.block _ zP).trans HR.out.1.box
      clear p0 p1 p2 p3 x0 x1 x2 x3 x4 x5 lb sE szE r1 r2 r3 r4 by2 hXk
      obtain ⟨p0, p1, p2, p3⟩ := box_cells xP
      clear xP
      go_wp2_with fail
      refine (is_any A o 0 (decide (o = some 0)) _ (eE.below (below1 _ _)) (by omega) HO.out.1.lt rfl).mono ?_
      rintro e w' ⟨rfl, rfl⟩
      clear eE
      by_cases ho : o = some 0
      · skip
        have td : decide (o = some 0) = true := by simpa using ho
        have HN : Hid ((doP (rB B X k) (X k)).1 = 1) := HO.out.2.symm.trans ((codeN_one HO.out.1).2 ho)
        clear ho v0 lv
        go_wp2_with fail
        have sA := below1 w2 (.cells #[.int .i64 (doP (rB B X k) (X k)).2.n, .slice ao2 (doP (rB B X k) (X k)).2.orders.length co2, .slice al2 (doP (rB B X k) (X k)).2.locked.length cl2, .slice ac2 (doP (rB B X k) (X k)).2.occ.length cc2] 33)
        have szA : (w2.alloc (.cells #[.int .i64 (doP (rB B X k) (X k)).2.n, .slice ao2 (doP (rB B X k) (X k)).2.orders.length co2, .slice al2 (doP (rB B X k) (X k)).2.locked.length cl2, .slice ac2 (doP (rB B X k) (X k)).2.occ.length cc2] 33)).heap.size = w2.heap.size + 1 := alloc_size _ _
        have tny := tiny_rB HB.out.1 X k
        have sml := small_rB HB.out.1 HB.out.2.1 X k
        refine (copyBook_any _ (rB B X k) _ sml.1 (fun i hi => (sml.2 i hi).1) (by have := tny.l; omega) (by have := tny.c; omega) ((HR.out.1.own.bookAt.below H2.out.2).below sA)).mono ?_
        clear tny sml
        rintro e w3 ⟨v3, rfl, ⟨K3, hrow⟩, hb3⟩
        obtain ⟨ao3, co3, al3, cl3, ac3, cc3, hv3, -⟩ := hrow.own.shape
        subst hv3
        have o3 := hrow.own
        rw [szA] at o3
        have z3 : w2.heap.size + 1 ≤ w3.heap.size := by have := hb3.size; omega
        have xQ : w3.heap[w2.heap.size]? = some (.cells #[.int .i64 (doP (rB B X k) (X k)).2.n, .slice ao2 (doP (rB B X k) (X k)).2.orders.length co2, .slice al2 (doP (rB B X k) (X k)).2.locked.length cl2, .slice ac2 (doP (rB B X k) (X k)).2.occ.length cc2] 33 (0, 0)) := (hb3.block _ (by omega)).trans (Deep.blk_alloc_new _ _)
        have br3 : Below wr.heap.size wr w3 := below_trans H2.out.2 H2.out.2.size (sA.trans (hb3.mono (by omega)))
        obtain ⟨q0, q1, q2, q3⟩ := box_cells xQ
        have fQ : ∀ i, w3.frozen? ⟨w2.heap.size, i, none⟩ = false := fun i => frozen_of_box xQ
        have fQ0 := fQ 0
        have fQ1 := fQ 1
        have fQ2 := fQ 2
        have fQ3 := fQ 3
        have HQ : Hid (OwnBook w3 (w2.heap.size + 1) (bookV (rB B X k) ⟨ao3, co3, al3, cl3, ac3, cc3⟩) (rB B X k) K3 ∧ Below wr.heap.size wr w3 ∧ w3.heap[w2.heap.size]? = some (.cells #[.int .i64 (doP (rB B X k) (X k)).2.n, .slice ao2 (doP (rB B X k) (X k)).2.orders.length co2, .slice al2 (doP (rB B X k) (X k)).2.locked.length cl2, .slice ac2 (doP (rB B X k) (X k)).2.occ.length cc2] 33 (0, 0))) := ⟨o3, br3, xQ⟩
        clear p0 p1 p2 p3 sA szA hrow hb3 o3 xQ br3 fQ td H2
        go_wp2
        clear q0 q1 q2 q3 fQ0 fQ1 fQ2 fQ3
        have lows : ∀ i, ∀ x, bookBlocks (rB B X k) K3 x → x ≠ (⟨w2.heap.size, i, none⟩ : Addr).block := fun i x hx => by have := HQ.out.1.blocks_low hx; show x ≠ w2.heap.size; omega
        have zr : wr.heap.size ≤ w2.heap.size := by omega
        have yQ : ((((w3.setCell ⟨w2.heap.size, 0, none⟩ (.int .i64 (rB B X k).n)).setCell ⟨w2.heap.size, 1, none⟩ (.slice ao3 (rB B X k).orders.length co3)).setCell ⟨w2.heap.size, 2, none⟩ (.slice al3 (rB B X k).locked.length cl3)).setCell ⟨w2.heap.size, 3, none⟩ (.slice ac3 (rB B X k).occ.length cc3)).heap[w2.heap.size]? = some (.cells #[.int .i64 (rB B X k).n, .slice ao3 (rB B X k).orders.length co3, .slice al3 (rB B X k).locked.length cl3, .slice ac3 (rB B X k).occ.length cc3] 33 (0, 0)) := (box_set (box_set (box_set (box_set HQ.out.2.2 _) _) _) _).trans rfl
        have oY : OwnBook ((((w3.setCell ⟨w2.heap.size, 0, none⟩ (.int .i64 (rB B X k).n)).setCell ⟨w2.heap.size, 1, none⟩ (.slice ao3 (rB B X k).orders.length co3)).setCell ⟨w2.heap.size, 2, none⟩ (.slice al3 (rB B X k).locked.length cl3)).setCell ⟨w2.heap.size, 3, none⟩ (.slice ac3 (rB B X k).occ.length cc3)) wr.heap.size (bookV (rB B X k) ⟨ao3, co3, al3, cl3, ac3, cc3⟩) (rB B X k) K3 := ((((HQ.out.1.setOther (lows 0) _).setOther (lows 1) _).setOther (lows 2) _).setOther (lows 3) _).mono (by omega)
        have bY : Below wr.heap.size wr ((((w3.setCell ⟨w2.heap.size, 0, none⟩ (.int .i64 (rB B X k).n)).setCell ⟨w2.heap.size, 1, none⟩ (.slice ao3 (rB B X k).orders.length co3)).setCell ⟨w2.heap.size, 2, none⟩ (.slice al3 (rB B X k).locked.length cl3)).setCell ⟨w2.heap.size, 3, none⟩ (.slice ac3 (rB B X k).occ.length cc3)) := below_set (below_set (below_set (below_set HQ.out.2.1 _ _ zr _) _ _ zr _) _ _ zr _) _ _ zr _
        clear HQ lows z3

        obtain ⟨Y, hY⟩ : ∃ Y, Y = ((((w3.setCell ⟨w2.heap.size, 0, none⟩ (.int .i64 (rB B X k).n)).setCell ⟨w2.heap.size, 1, none⟩ (.slice ao3 (rB B X k).orders.length co3)).setCell ⟨w2.heap.size, 2, none⟩ (.slice al3 (rB B X k).locked.length cl3)).setCell ⟨w2.heap.size, 3, none⟩ (.slice ac3 (rB B X k).occ.length cc3)) := ⟨_, rfl⟩
        rw [← hY] at yQ oY bY ⊢
        clear hY
        have eY : Errs Y A := (HE.out.1.below HR.out.1.bel).below bY
        have zY : w2.heap.size < Y.heap.size := (Array.getElem?_eq_some_iff.1 yQ).1
        obtain ⟨b0, b1, b2, b3⟩ := box_cells yQ
        have HY : Hid (Y.heap[w2.heap.size]? = some (.cells #[.int .i64 (rB B X k).n, .slice ao3 (rB B X k).orders.length co3, .slice al3 (rB B X k).locked.length cl3, .slice ac3 (rB B X k).occ.length cc3] 33 (0, 0)) ∧ OwnBook Y wr.heap.size (bookV (rB B X k) (⟨ao3, co3, al3, cl3, ac3, cc3⟩ : Sl)) (rB B X k) K3 ∧ Below wr.heap.size wr Y ∧ Errs Y A) := ⟨yQ, oY, bY, eY⟩
        clear yQ oY bY eY
        refine wp_region_held_drew (S := (fun w' => w'.cell? ⟨w2.heap.size, 0, none⟩ = some (.int .i64 (rB B X k).n) ∧ w'.cell? ⟨w2.heap.size, 1, none⟩ = some (.slice ao3 (rB B X k).orders.length co3) ∧ w'.cell? ⟨w2.heap.size, 2, none⟩ = some (.slice al3 (rB B X k).locked.length cl3) ∧ w'.cell? ⟨w2.heap.size, 3, none⟩ = some (.slice ac3 (rB B X k).occ.length cc3))) (by kernel_rfl) ⟨b0, b1, b2, b3⟩ (fun hS0 => ?_)
        refine wpAnyH_take (i := 0) (v := ?_) rfl (by kernel_rfl) (by kernel_rfl) (by kernel_rfl) (fun _ _ _ h => h) (Or.inl ⟨by kernel_rfl, ?_⟩) (by assumption) ?_
        rotate_left 1
        · (intro w hSw; (try dsimp only at hSw); go_simp; try (with_reducible rfl))
        refine wpAnyH_take (i := 1) (v := ?_) rfl (by kernel_rfl) (by kernel_rfl) (by kernel_rfl) (fun _ _ _ h => h) (Or.inl ⟨by kernel_rfl, ?_⟩) (by assumption) ?_
        rotate_left 1
        · (intro w hSw; (try dsimp only at hSw); go_simp; try (with_reducible rfl))
        refine wpAnyH_take (i := 3) (v := ?_) rfl (by kernel_rfl) (by kernel_rfl) (by kernel_rfl) (fun _ _ _ h => h) (Or.inl ⟨by kernel_rfl, ?_⟩) (by assumption) ?_
        rotate_left 1
        · (intro w hSw; (try dsimp only at hSw); go_simp; try (with_reducible rfl))
        refine wpAnyH_ready (rs := [2]) (by kernel_rfl) (by simp) ?_
        refine AllReadyH.cons rfl (fun K hK => ?_) (AllReadyH.nil)
        go_simp
        refine (codeOf_at A o _ (HY.out.2.2.2.below (Below.refl _ _).drew) HO.out.1).mono ?_
        rintro e w' ⟨rfl, rfl⟩
        refine hK.out _ _ hS0 (fun _ => ?_)
        clear hK K
        refine wpAnyH_take (i := 4) (v := ?_) rfl (by kernel_rfl) (by kernel_rfl) (by kernel_rfl) (fun _ _ _ h => h) (Or.inl ⟨by kernel_rfl, ?_⟩) (by assumption) ?_
        rotate_left 1
        · (intro w hSw; (try dsimp only at hSw); go_simp; try (with_reducible rfl))
        refine wpAnyH_ready (rs := [5]) (by kernel_rfl) (by simp) ?_
        refine AllReadyH.cons rfl (fun K hK => ?_) (AllReadyH.nil)
        go_simp
        refine hK.out _ _ ⟨((below1 Y.drew _).cell (p := ⟨w2.heap.size, 0, none⟩) zY).trans hS0.1, ((below1 Y.drew _).cell (p := ⟨w2.heap.size, 1, none⟩) zY).trans hS0.2.1, ((below1 Y.drew _).cell (p := ⟨w2.heap.size, 2, none⟩) zY).trans hS0.2.2.1, ((below1 Y.drew _).cell (p := ⟨w2.heap.size, 3, none⟩) zY).trans hS0.2.2.2⟩ (fun hS1 => ?_)
        clear hK K
        refine wpAnyH_ready (rs := [6]) (by kernel_rfl) (by simp) ?_
        refine AllReadyH.cons rfl (fun K hK => ?_) (AllReadyH.nil)
        have bV : Below wr.heap.size wr (Y.alloc (.cells #[.int .i64 (codeN o), .int .i64 (rB B X k).n, .slice ao3 (rB B X k).orders.length co3, .slice al3 (rB B X k).locked.length cl3, .slice ac3 (rB B X k).occ.length cc3] 35)).drew := (HY.out.2.2.1.alloc HY.out.2.2.1.size _).drew
        have hn : (Y.alloc (.cells #[.int .i64 (codeN o), .int .i64 (rB B X k).n, .slice ao3 (rB B X k).orders.length co3, .slice al3 (rB B X k).locked.length cl3, .slice ac3 (rB B X k).occ.length cc3] 35)).drew.heap[Y.heap.size]? = some (.cells #[.int .i64 (codeN o), .int .i64 (rB B X k).n, .slice ao3 (rB B X k).orders.length co3, .slice al3 (rB B X k).locked.length cl3, .slice ac3 (rB B X k).occ.length cc3] 35 (0, 0)) := Deep.blk_alloc_new Y _
        have oV : OwnBook (Y.alloc (.cells #[.int .i64 (codeN o), .int .i64 (rB B X k).n, .slice ao3 (rB B X k).orders.length co3, .slice al3 (rB B X k).locked.length cl3, .slice ac3 (rB B X k).occ.length cc3] 35)).drew wr.heap.size (bookV (rB B X k) (⟨ao3, co3, al3, cl3, ac3, cc3⟩ : Sl)) (rB B X k) K3 := (HY.out.2.1.below (below1 _ _)).drew
        have xV : (Y.alloc (.cells #[.int .i64 (codeN o), .int .i64 (rB B X k).n, .slice ao3 (rB B X k).orders.length co3, .slice al3 (rB B X k).locked.length cl3, .slice ac3 (rB B X k).occ.length cc3] 35)).drew.heap[w2.heap.size]? = some (.cells #[.int .i64 (rB B X k).n, .slice ao3 (rB B X k).orders.length co3, .slice al3 (rB B X k).locked.length cl3, .slice ac3 (rB B X k).occ.length cc3] 33 (0, 0)) := (Deep.blk_alloc_lt Y _ _ zY).trans HY.out.1
        have zV : w2.heap.size < (Y.alloc (.cells #[.int .i64 (codeN o), .int .i64 (rB B X k).n, .slice ao3 (rB B X k).orders.length co3, .slice al3 (rB B X k).locked.length cl3, .slice ac3 (rB B X k).occ.length cc3] 35)).drew.heap.size := (Array.getElem?_eq_some_iff.1 xV).1
        obtain ⟨V, hV⟩ : ∃ V, V = (Y.alloc (.cells #[.int .i64 (codeN o), .int .i64 (rB B X k).n, .slice ao3 (rB B X k).orders.length co3, .slice al3 (rB B X k).locked.length cl3, .slice ac3 (rB B X k).occ.length cc3] 35)).drew := ⟨_, rfl⟩
        rw [← hV] at bV hn oV xV zV hS1 ⊢
        clear hV
        have n4 : ∀ j u', (cellsD (codeN o) (rB B X k) (⟨ao3, co3, al3, cl3, ac3, cc3⟩ : Sl))[j]? = some u' → V.cell? ((⟨Y.heap.size, 0, none⟩ : Addr).add j) = some u' := by
          intro j u' hu
          rw [add0]
          refine cell_of_box hn ?_
          rw [← Array.getElem?_toList]
          exact hu
        have R4 : RowDones V (w1.heap.size + 1) u k (rC B X) (fun i => rB B X (i + 1)) sl K0s := HR.out.1.row.below bV
        have hlw := HR.out.1.lw
        have szV := bV.size
        refine wp_append_row _ _ 49 rfl (w1.heap.size + 1) 35 id _ 5 88 Tryz.underlying49 hid zd0 zd1 zd2 rfl (by decide) u k (flatD (rC B X) (fun i => rB B X (i + 1)) sl k) rfl R4.row ⟨Y.heap.size, 0, none⟩ 1 1 (cellsD (codeN o) (rB B X k) (⟨ao3, co3, al3, cl3, ac3, cc3⟩ : Sl)) rfl rfl n4 ?_ (by unfold maxLen; omega) (by omega) (by omega) ?_
        · intro x hx
          simp only [cellsD, List.mem_cons, List.not_mem_nil, or_false] at hx
          rcases hx with rfl | rfl | rfl | rfl | rfl <;> rfl
        intro vU wU hownU hgU _ hbU
        have hlow : ∀ g, u.ownBlock = some g → g < wr.heap.size ∧ w1.heap.size + 1 ≤ g := fun g hg => ⟨(owns_lt HR.out.1.row.row hg).2, (owns_lt HR.out.1.row.row hg).1⟩
        have xU : wU.heap[w2.heap.size]? = some (.cells #[.int .i64 (rB B X k).n, .slice ao3 (rB B X k).orders.length co3, .slice al3 (rB B X k).locked.length cl3, .slice ac3 (rB B X k).occ.length cc3] 33 (0, 0)) := (hgU.block _ zV (fun e => by have := (hlow _ e.symm).1; omega)).trans xV
        have xPU : wU.heap[w1.heap.size]? = some (.cells #[.int .i64 (rB B X k).n, .slice s.ao (rB B X k).orders.length s.co, .slice s.al (rB B X k).locked.length s.cl, .slice s.ac (rB B X k).occ.length s.cc] 33 (0, 0)) := (hgU.block _ (by omega) (fun e => by have := (hlow _ e.symm).2; omega)).trans ((bV.block _ zP).trans HR.out.1.box)
        have HU : Hid (RunInv w (putBook wU w1.heap.size (rB B X k) (⟨ao3, co3, al3, cl3, ac3, cc3⟩ : Sl)) w1.heap.size (w1.heap.size + 1) vU (k + 1) B X (put1 sl k (⟨ao3, co3, al3, cl3, ac3, cc3⟩ : Sl)) (put1 K0s k K3) (⟨ao3, co3, al3, cl3, ac3, cc3⟩ : Sl) K3) := HR.out.1.step2 bV (by simp only [rB]; rw [if_pos HN.out]) HO.out.2.symm oV hownU hgU hbU
        obtain ⟨adU, cU, GU, rfl, -, -⟩ := HU.out.row.done
        obtain ⟨c0, c1, c2, c3⟩ := box_cells xU
        refine hK.out _ _ ⟨c0, c1, c2, c3⟩ (fun _ => ?_)
        clear hK K
        obtain ⟨p0, p1, p2, p3⟩ := box_cells xPU
        have fP : ∀ i, wU.frozen? ⟨w1.heap.size, i, none⟩ = false := fun i => frozen_of_box xPU
        have fP0 := fP 0
        have fP1 := fP 1
        have fP2 := fP 2
        have fP3 := fP 3
        clear hownU hgU hbU n4 R4 bV hn oV xV xU xPU zV HY hS0 hS1 fP b0 b1 b2 b3 hlow szV hlw
        refine wpAnyH_take (i := 7) (v := ?_) rfl (by kernel_rfl) (by kernel_rfl) (by kernel_rfl) (fun _ _ _ h => h) (Or.inl ⟨by kernel_rfl, ?_⟩) (by assumption) ?_
        rotate_left 1
        · (intro w hSw; (try dsimp only at hSw); go_simp; try (with_reducible rfl))
        refine wpAnyH_done (by kernel_rfl) ?_ _
        go_simp
        clear HR HO zY zP z2
        go_wp2
        go_roundw
        case rel => exact ⟨k + 1, _, _, _, _, _, by omega, by go_num, rfl, HU.out⟩
        case measure => simp [intOf]; omega
      · skip
        have td : decide (o = some 0) = false := by simpa using ho
        have HN : Hid (¬ (doP (rB B X k) (X k)).1 = 1) := fun e => ho ((codeN_one HO.out.1).1 (HO.out.2.trans e))
        clear ho
        go_wp2
        clear p0 p1 p2 p3 v0 lv td
        have yQ : (w2.alloc (.cells #[.int .i64 (doP (rB B X k) (X k)).2.n, .slice ao2 (doP (rB B X k) (X k)).2.orders.length co2, .slice al2 (doP (rB B X k) (X k)).2.locked.length cl2, .slice ac2 (doP (rB B X k) (X k)).2.occ.length cc2] 33)).heap[w2.heap.size]? = some (.cells #[.int .i64 (doP (rB B X k) (X k)).2.n, .slice ao2 (doP (rB B X k) (X k)).2.orders.length co2, .slice al2 (doP (rB B X k) (X k)).2.locked.length cl2, .slice ac2 (doP (rB B X k) (X k)).2.occ.length cc2] 33 (0, 0)) := Deep.blk_alloc_new _ _
        have oY : OwnBook (w2.alloc (.cells #[.int .i64 (doP (rB B X k) (X k)).2.n, .slice ao2 (doP (rB B X k) (X k)).2.orders.length co2, .slice al2 (doP (rB B X k) (X k)).2.locked.length cl2, .slice ac2 (doP (rB B X k) (X k)).2.occ.length cc2] 33)) wr.heap.size (bookV (doP (rB B X k) (X k)).2 ⟨ao2, co2, al2, cl2, ac2, cc2⟩) (doP (rB B X k) (X k)).2 KD := H2.out.1.below (below1 _ _)
        have bY : Below wr.heap.size wr (w2.alloc (.cells #[.int .i64 (doP (rB B X k) (X k)).2.n, .slice ao2 (doP (rB B X k) (X k)).2.orders.length co2, .slice al2 (doP (rB B X k) (X k)).2.locked.length cl2, .slice ac2 (doP (rB B X k) (X k)).2.occ.length cc2] 33)) := below_trans H2.out.2 H2.out.2.size (below1 _ _)
        clear H2

        obtain ⟨Y, hY⟩ : ∃ Y, Y = w2.alloc (.cells #[.int .i64 (doP (rB B X k) (X k)).2.n, .slice ao2 (doP (rB B X k) (X k)).2.orders.length co2, .slice al2 (doP (rB B X k) (X k)).2.locked.length cl2, .slice ac2 (doP (rB B X k) (X k)).2.occ.length cc2] 33) := ⟨_, rfl⟩
        rw [← hY] at yQ oY bY ⊢
        clear hY
        have eY : Errs Y A := (HE.out.1.below HR.out.1.bel).below bY
        have zY : w2.heap.size < Y.heap.size := (Array.getElem?_eq_some_iff.1 yQ).1
        obtain ⟨b0, b1, b2, b3⟩ := box_cells yQ
        have HY : Hid (Y.heap[w2.heap.size]? = some (.cells #[.int .i64 (doP (rB B X k) (X k)).2.n, .slice ao2 (doP (rB B X k) (X k)).2.orders.length co2, .slice al2 (doP (rB B X k) (X k)).2.locked.length cl2, .slice ac2 (doP (rB B X k) (X k)).2.occ.length cc2] 33 (0, 0)) ∧ OwnBook Y wr.heap.size (bookV (doP (rB B X k) (X k)).2 (⟨ao2, co2, al2, cl2, ac2, cc2⟩ : Sl)) (doP (rB B X k) (X k)).2 KD ∧ Below wr.heap.size wr Y ∧ Errs Y A) := ⟨yQ, oY, bY, eY⟩
        clear yQ oY bY eY
        refine wp_region_held_drew (S := (fun w' => w'.cell? ⟨w2.heap.size, 0, none⟩ = some (.int .i64 (doP (rB B X k) (X k)).2.n) ∧ w'.cell? ⟨w2.heap.size, 1, none⟩ = some (.slice ao2 (doP (rB B X k) (X k)).2.orders.length co2) ∧ w'.cell? ⟨w2.heap.size, 2, none⟩ = some (.slice al2 (doP (rB B X k) (X k)).2.locked.length cl2) ∧ w'.cell? ⟨w2.heap.size, 3, none⟩ = some (.slice ac2 (doP (rB B X k) (X k)).2.occ.length cc2))) (by kernel_rfl) ⟨b0, b1, b2, b3⟩ (fun hS0 => ?_)
        refine wpAnyH_take (i := 0) (v := ?_) rfl (by kernel_rfl) (by kernel_rfl) (by kernel_rfl) (fun _ _ _ h => h) (Or.inl ⟨by kernel_rfl, ?_⟩) (by assumption) ?_
        rotate_left 1
        · (intro w hSw; (try dsimp only at hSw); go_simp; try (with_reducible rfl))
        refine wpAnyH_take (i := 1) (v := ?_) rfl (by kernel_rfl) (by kernel_rfl) (by kernel_rfl) (fun _ _ _ h => h) (Or.inl ⟨by kernel_rfl, ?_⟩) (by assumption) ?_
        rotate_left 1
        · (intro w hSw; (try dsimp only at hSw); go_simp; try (with_reducible rfl))
        refine wpAnyH_take (i := 3) (v := ?_) rfl (by kernel_rfl) (by kernel_rfl) (by kernel_rfl) (fun _ _ _ h => h) (Or.inl ⟨by kernel_rfl, ?_⟩) (by assumption) ?_
        rotate_left 1
        · (intro w hSw; (try dsimp only at hSw); go_simp; try (with_reducible rfl))
        refine wpAnyH_ready (rs := [2]) (by kernel_rfl) (by simp) ?_
        refine AllReadyH.cons rfl (fun K hK => ?_) (AllReadyH.nil)
        go_simp
        refine (codeOf_at A o _ (HY.out.2.2.2.below (Below.refl _ _).drew) HO.out.1).mono ?_
        rintro e w' ⟨rfl, rfl⟩
        refine hK.out _ _ hS0 (fun _ => ?_)
        clear hK K
        refine wpAnyH_take (i := 4) (v := ?_) rfl (by kernel_rfl) (by kernel_rfl) (by kernel_rfl) (fun _ _ _ h => h) (Or.inl ⟨by kernel_rfl, ?_⟩) (by assumption) ?_
        rotate_left 1
        · (intro w hSw; (try dsimp only at hSw); go_simp; try (with_reducible rfl))
        refine wpAnyH_ready (rs := [5]) (by kernel_rfl) (by simp) ?_
        refine AllReadyH.cons rfl (fun K hK => ?_) (AllReadyH.nil)
        go_simp
        refine hK.out _ _ ⟨((below1 Y.drew _).cell (p := ⟨w2.heap.size, 0, none⟩) zY).trans hS0.1, ((below1 Y.drew _).cell (p := ⟨w2.heap.size, 1, none⟩) zY).trans hS0.2.1, ((below1 Y.drew _).cell (p := ⟨w2.heap.size, 2, none⟩) zY).trans hS0.2.2.1, ((below1 Y.drew _).cell (p := ⟨w2.heap.size, 3, none⟩) zY).trans hS0.2.2.2⟩ (fun hS1 => ?_)
        clear hK K
        refine wpAnyH_ready (rs := [6]) (by kernel_rfl) (by simp) ?_
        refine AllReadyH.cons rfl (fun K hK => ?_) (AllReadyH.nil)
        have bV : Below wr.heap.size wr (Y.alloc (.cells #[.int .i64 (codeN o), .int .i64 (doP (rB B X k) (X k)).2.n, .slice ao2 (doP (rB B X k) (X k)).2.orders.length co2, .slice al2 (doP (rB B X k) (X k)).2.locked.length cl2, .slice ac2 (doP (rB B X k) (X k)).2.occ.length cc2] 35)).drew := (HY.out.2.2.1.alloc HY.out.2.2.1.size _).drew
        have hn : (Y.alloc (.cells #[.int .i64 (codeN o), .int .i64 (doP (rB B X k) (X k)).2.n, .slice ao2 (doP (rB B X k) (X k)).2.orders.length co2, .slice al2 (doP (rB B X k) (X k)).2.locked.length cl2, .slice ac2 (doP (rB B X k) (X k)).2.occ.length cc2] 35)).drew.heap[Y.heap.size]? = some (.cells #[.int .i64 (codeN o), .int .i64 (doP (rB B X k) (X k)).2.n, .slice ao2 (doP (rB B X k) (X k)).2.orders.length co2, .slice al2 (doP (rB B X k) (X k)).2.locked.length cl2, .slice ac2 (doP (rB B X k) (X k)).2.occ.length cc2] 35 (0, 0)) := Deep.blk_alloc_new Y _
        have oV : OwnBook (Y.alloc (.cells #[.int .i64 (codeN o), .int .i64 (doP (rB B X k) (X k)).2.n, .slice ao2 (doP (rB B X k) (X k)).2.orders.length co2, .slice al2 (doP (rB B X k) (X k)).2.locked.length cl2, .slice ac2 (doP (rB B X k) (X k)).2.occ.length cc2] 35)).drew wr.heap.size (bookV (doP (rB B X k) (X k)).2 (⟨ao2, co2, al2, cl2, ac2, cc2⟩ : Sl)) (doP (rB B X k) (X k)).2 KD := (HY.out.2.1.below (below1 _ _)).drew
        have xV : (Y.alloc (.cells #[.int .i64 (codeN o), .int .i64 (doP (rB B X k) (X k)).2.n, .slice ao2 (doP (rB B X k) (X k)).2.orders.length co2, .slice al2 (doP (rB B X k) (X k)).2.locked.length cl2, .slice ac2 (doP (rB B X k) (X k)).2.occ.length cc2] 35)).drew.heap[w2.heap.size]? = some (.cells #[.int .i64 (doP (rB B X k) (X k)).2.n, .slice ao2 (doP (rB B X k) (X k)).2.orders.length co2, .slice al2 (doP (rB B X k) (X k)).2.locked.length cl2, .slice ac2 (doP (rB B X k) (X k)).2.occ.length cc2] 33 (0, 0)) := (Deep.blk_alloc_lt Y _ _ zY).trans HY.out.1
        have zV : w2.heap.size < (Y.alloc (.cells #[.int .i64 (codeN o), .int .i64 (doP (rB B X k) (X k)).2.n, .slice ao2 (doP (rB B X k) (X k)).2.orders.length co2, .slice al2 (doP (rB B X k) (X k)).2.locked.length cl2, .slice ac2 (doP (rB B X k) (X k)).2.occ.length cc2] 35)).drew.heap.size := (Array.getElem?_eq_some_iff.1 xV).1
        obtain ⟨V, hV⟩ : ∃ V, V = (Y.alloc (.cells #[.int .i64 (codeN o), .int .i64 (doP (rB B X k) (X k)).2.n, .slice ao2 (doP (rB B X k) (X k)).2.orders.length co2, .slice al2 (doP (rB B X k) (X k)).2.locked.length cl2, .slice ac2 (doP (rB B X k) (X k)).2.occ.length cc2] 35)).drew := ⟨_, rfl⟩
        rw [← hV] at bV hn oV xV zV hS1 ⊢
        clear hV
        have n4 : ∀ j u', (cellsD (codeN o) (doP (rB B X k) (X k)).2 (⟨ao2, co2, al2, cl2, ac2, cc2⟩ : Sl))[j]? = some u' → V.cell? ((⟨Y.heap.size, 0, none⟩ : Addr).add j) = some u' := by
          intro j u' hu
          rw [add0]
          refine cell_of_box hn ?_
          rw [← Array.getElem?_toList]
          exact hu
        have R4 : RowDones V (w1.heap.size + 1) u k (rC B X) (fun i => rB B X (i + 1)) sl K0s := HR.out.1.row.below bV
        have hlw := HR.out.1.lw
        have szV := bV.size
        refine wp_append_row _ _ 49 rfl (w1.heap.size + 1) 35 id _ 5 88 Tryz.underlying49 hid zd0 zd1 zd2 rfl (by decide) u k (flatD (rC B X) (fun i => rB B X (i + 1)) sl k) rfl R4.row ⟨Y.heap.size, 0, none⟩ 1 1 (cellsD (codeN o) (doP (rB B X k) (X k)).2 (⟨ao2, co2, al2, cl2, ac2, cc2⟩ : Sl)) rfl rfl n4 ?_ (by unfold maxLen; omega) (by omega) (by omega) ?_
        · intro x hx
          simp only [cellsD, List.mem_cons, List.not_mem_nil, or_false] at hx
          rcases hx with rfl | rfl | rfl | rfl | rfl <;> rfl
        intro vU wU hownU hgU _ hbU
        have hlow : ∀ g, u.ownBlock = some g → g < wr.heap.size ∧ w1.heap.size + 1 ≤ g := fun g hg => ⟨(owns_lt HR.out.1.row.row hg).2, (owns_lt HR.out.1.row.row hg).1⟩
        have xU : wU.heap[w2.heap.size]? = some (.cells #[.int .i64 (doP (rB B X k) (X k)).2.n, .slice ao2 (doP (rB B X k) (X k)).2.orders.length co2, .slice al2 (doP (rB B X k) (X k)).2.locked.length cl2, .slice ac2 (doP (rB B X k) (X k)).2.occ.length cc2] 33 (0, 0)) := (hgU.block _ zV (fun e => by have := (hlow _ e.symm).1; omega)).trans xV
        have xPU : wU.heap[w1.heap.size]? = some (.cells #[.int .i64 (rB B X k).n, .slice s.ao (rB B X k).orders.length s.co, .slice s.al (rB B X k).locked.length s.cl, .slice s.ac (rB B X k).occ.length s.cc] 33 (0, 0)) := (hgU.block _ (by omega) (fun e => by have := (hlow _ e.symm).2; omega)).trans ((bV.block _ zP).trans HR.out.1.box)
        have HU : Hid (RunInv w (putBook wU w1.heap.size (doP (rB B X k) (X k)).2 (⟨ao2, co2, al2, cl2, ac2, cc2⟩ : Sl)) w1.heap.size (w1.heap.size + 1) vU (k + 1) B X (put1 sl k (⟨ao2, co2, al2, cl2, ac2, cc2⟩ : Sl)) (put1 K0s k KD) (⟨ao2, co2, al2, cl2, ac2, cc2⟩ : Sl) KD) := HR.out.1.step2 bV (by simp only [rB]; rw [if_neg HN.out]) HO.out.2.symm oV hownU hgU hbU
        obtain ⟨adU, cU, GU, rfl, -, -⟩ := HU.out.row.done
        obtain ⟨c0, c1, c2, c3⟩ := box_cells xU
        refine hK.out _ _ ⟨c0, c1, c2, c3⟩ (fun _ => ?_)
        clear hK K
        obtain ⟨p0, p1, p2, p3⟩ := box_cells xPU
        have fP : ∀ i, wU.frozen? ⟨w1.heap.size, i, none⟩ = false := fun i => frozen_of_box xPU
        have fP0 := fP 0
        have fP1 := fP 1
        have fP2 := fP 2
        have fP3 := fP 3
        clear hownU hgU hbU n4 R4 bV hn oV xV xU xPU zV HY hS0 hS1 fP b0 b1 b2 b3 hlow szV hlw
        refine wpAnyH_take (i := 7) (v := ?_) rfl (by kernel_rfl) (by kernel_rfl) (by kernel_rfl) (fun _ _ _ h => h) (Or.inl ⟨by kernel_rfl, ?_⟩) (by assumption) ?_
        rotate_left 1
        · (intro w hSw; (try dsimp only at hSw); go_simp; try (with_reducible rfl))
        refine wpAnyH_done (by kernel_rfl) ?_ _
        go_simp
        clear HR HO zY zP z2
        go_wp2
        go_roundw
        case rel => exact ⟨k + 1, _, _, _, _, _, by omega, by go_num, rfl, HU.out⟩
        case measure => simp [intOf]; omega
    · obtain rfl : k = n := by omega
      have HR : Hid (RunInv w wr w1.heap.size (w1.heap.size + 1) u k B X sl K0s s Kb) := hi
      obtain ⟨ad', c', G', rfl, ha, hd⟩ := hi.row.done
      have HD : Hid (OwnDones wr (w1.heap.size + 1) k (rC B X) (fun i => rB B X (i + 1)) G' sl K0s) := hd
      clear hi hd
      go_wp2
      go_ret
      refine ⟨k, ad', c', G', sl, K0s, Or.inl ⟨HO'.out, rfl⟩, rfl, ha, ?_, HR.out.bel⟩
      rw [← HBe.out]
      exact HD.out.mono (by have := HR.out.wP; omega)

end Go.Proofs.YtbgmgfnhmlpehabGreatDoor

/-
  laws.FnExactRun: the walk out of contracts. Mine, by template (wip/gen.py).
-/
namespace Go.Proofs.YtbgmgfnhmlpehabGreatDoor
open Go.RowKit

theorem OwnDones.at' {w : World} {lo n : Nat} {C : Nat → Int} {R : Nat → Bk} {G : Nat} {s : Nat → Sl} {K : Nat → Blk} (h : OwnDones w lo n C R G s K) {ad : Option Addr} (had : 0 < n → ad = some ⟨G, 0, none⟩) : DonesAt w ad n C R :=
  ⟨G, 0, had, fun i hi => ⟨s i, by rw [Nat.zero_add]; exact h.cells hi⟩⟩

theorem kEv_le (X : Nat → Ev) (k n : Nat) : kEv X k n ≤ k + 5 * n + sEv X n := by
  induction n with
  | zero => simp [kEv]
  | succ n ih =>
    simp only [kEv, sEv]
    have : (X n).secs.length ≤ wEv (X n) := by unfold wEv; omega
    omega

theorem kD_le (R : Nat → Bk) (k n : Nat) (h : ∀ i, i < n → Tiny (R i)) : kD R k n ≤ k + 4745 * n := by
  induction n with
  | zero => simp [kD]
  | succ n ih =>
    have h1 := ih (fun i hi => h i (by omega))
    have t := h n (by omega)
    have h2 := kAt_tiny (bX (R n)) (kD R k n + 2) (R n).orders.length t.s
    have h3 := t.o
    have h4 := t.l
    have h5 := t.c
    simp only [kD]
    unfold bEnd bK
    omega

theorem run_count {s : Int} {n m m' : Nat} (h : (runOk s n ∧ m = n) ∨ (¬ runOk s n ∧ m = 0)) (h' : (runOk s n ∧ m' = n) ∨ (¬ runOk s n ∧ m' = 0)) : m' = m := by
  rcases h with ⟨a, b⟩ | ⟨a, b⟩ <;> rcases h' with ⟨a', b'⟩ | ⟨a', b'⟩
  · omega
  · exact absurd a a'
  · exact absurd a' a
  · omega
theorem run_count_le {s : Int} {n m : Nat} (h : (runOk s n ∧ m = n) ∨ (¬ runOk s n ∧ m = 0)) : m ≤ 1000 := by
  rcases h with ⟨a, b⟩ | ⟨a, b⟩
  · have := a.2; omega
  · omega

/-- The marks of the answer, kept. -/
structure MarkD (w : World) (n : Nat) (R : Nat → Bk) (G : Nat) (s : Nat → Sl) : Prop where
  row : 0 < n → DRow w G n R s 1 n
  bk : ∀ i, i < n → BookAt w (bookV (R i) (s i)) (mBk (R i) (kD R 1 i + 2))
theorem MarkD.below {w w' : World} {n : Nat} {R : Nat → Bk} {G : Nat} {s : Nat → Sl} (h : MarkD w n R G s) (hb : Below w.heap.size w w') : MarkD w' n R G s :=
  ⟨fun p => (h.row p).of_block (hb.block _ (h.row p).lt), fun i hi => (h.bk i hi).below hb⟩

set_option maxHeartbeats 8000000 in
theorem fnExactRun_walk (A : Nat → Addr) (sct : Int) (ad : Option Addr) (c n : Nat) (X : Nat → Ev) (w : World) (hE : Errs w A) (hT : Lib.TabIs Tryz.prog w "internal/strconv.uint64pow10" .u64 Lib.pow10Tab) (hn : n ≤ maxLen) (hX : ∀ i, i < n → (X i).holder.size ≤ maxLen ∧ (X i).text.size ≤ maxLen ∧ (X i).secs.length ≤ maxLen) (G : EventsAt w ad n X) :
    Calls Tryz.prog 4 #[.int .i64 sct, .slice ad n c] w fun e w' => e = .returned (.bool true) ∧ Below w.heap.size w w' := by
  have HG : Hid (EventsAt w ad n X ∧ Errs w A ∧ Lib.TabIs Tryz.prog w "internal/strconv.uint64pow10" .u64 Lib.pow10Tab) := ⟨G, hE, hT⟩
  have hn' : n ≤ 9223372036854775807 := by unfold maxLen at hn; exact hn
  have hX' : ∀ i, i < n → (X i).holder.size ≤ 9223372036854775807 ∧ (X i).text.size ≤ 9223372036854775807 ∧ (X i).secs.length ≤ 9223372036854775807 := fun i hi => by have := hX i hi; unfold maxLen at this; exact this
  have HX' : Hid (∀ i, i < n → (X i).holder.size ≤ 9223372036854775807 ∧ (X i).text.size ≤ 9223372036854775807 ∧ (X i).secs.length ≤ 9223372036854775807) := hX'
  clear G hE hT hn hX hX'
  go_enter Tryz.func4, Tryz.ntmps4
  go_wp2_with fail
  refine (szEventS_any ad c n X 1048576 w hn' HX'.out (by omega) (by omega) HG.out.1).mono ?_
  rintro e w1 ⟨r, rfl, hr, b1⟩
  by_cases hneg : r < 0
  · clear hr
    go_wp2
    go_ret
    exact ⟨rfl, b1⟩
  have hsz : (n : Int) + sEv X n ≤ 1048576 := by rcases hr with h | h <;> omega
  have hn1 : n ≤ 1048576 := by omega
  have hs1 : sEv X n ≤ 1048576 := by omega
  have HS : Hid (∀ i, i < n → (X i).holder.size ≤ 1048576 ∧ (X i).text.size ≤ 1048576 ∧ (X i).secs.length ≤ 1048576) := fun i hi => by
    have := sEv_mem X n i hi
    unfold wEv at this
    exact ⟨by omega, by omega, by omega⟩
  have HK : Hid (kEv X 1 n ≤ 2305843009213693952) := by have := kEv_le X 1 n; show kEv X 1 n ≤ _; omega
  have HB : Hid (∀ i, Tiny (rB (beginBk sct) X i)) := fun i => tiny_rB (begin_tiny sct).1 X i
  clear hr hsz HX' hn'
  -- w0 := spec.Run(aSections, toEventS(aEvents))
  go_wp2_with fail
  refine (toEventS_any ad c n X w1 hn1 (fun i hi => (HS.out i hi).2.2) (HG.out.1.below b1)).mono ?_
  rintro e w2 ⟨gs2, rfl, x2, b⟩
  have b2 := below_trans b1 b1.size b
  have H2 : Hid (EventsAt w2 (some ⟨w1.heap.size, 0, none⟩) n X) := x2.at_
  clear b x2
  go_wp2_with fail
  refine (specRun_any sct _ n n X w2 hn1 HS.out H2.out).mono ?_
  rintro e w3 ⟨m, ad0, c0, G0, sl0, K0, hm, rfl, had0, q0, b⟩
  have b3 := below_trans b2 b2.size b
  have hm1 := run_count_le hm
  have HM : Hid ((runOk sct n ∧ m = n) ∨ (¬ runOk sct n ∧ m = 0)) := hm
  have H0 : Hid (OwnDones w3 w2.heap.size m (rC (beginBk sct) X) (fun i => rB (beginBk sct) X (i + 1)) G0 sl0 K0 ∧ (0 < m → ad0 = some ⟨G0, 0, none⟩)) := ⟨q0, had0⟩
  have HD : Hid (∀ x, doneBlocks m (fun i => rB (beginBk sct) X (i + 1)) G0 K0 x → x < w3.heap.size) := fun x hx => (q0.blocks hx).2
  have HKD : Hid (kD (fun i => rB (beginBk sct) X (i + 1)) 1 m ≤ 2305843009213693952) := by
    have := kD_le (fun i => rB (beginBk sct) X (i + 1)) 1 m (fun i _ => HB.out (i + 1))
    show kD _ 1 m ≤ _
    omega
  clear b q0 had0 hm H2
  -- x1 := toEventS(aEvents)
  go_wp2_with fail
  refine (toEventS_any ad c n X w3 hn1 (fun i hi => (HS.out i hi).2.2) (HG.out.1.below b3)).mono ?_
  rintro e w4 ⟨gs4, rfl, x4, b⟩
  have b4 := below_trans b3 b3.size b
  have z34 := b.size
  have H4 : Hid (OwnEvs w4 w3.heap.size n X w3.heap.size gs4 ∧ OwnDones w4 w2.heap.size m (rC (beginBk sct) X) (fun i => rB (beginBk sct) X (i + 1)) G0 sl0 K0) := ⟨x4, H0.out.1.below b⟩
  have HX4 : Hid (∀ x, evBlocks n w3.heap.size gs4 x → w3.heap.size ≤ x ∧ x < w4.heap.size) := fun x hx => x4.blocks hx
  clear b x4
  -- g0 := impl.Run(aSections, x1)
  go_wp2_with fail
  refine (implRun_any A sct _ n n X w4 (HG.out.2.1.below b4) (tab_below HG.out.2.2 b4) hn1 HS.out H4.out.1.at_).mono ?_
  rintro e w5 ⟨m', ad1, c1, G1, sl1, K1, hm', rfl, had1, q1, b⟩
  obtain rfl := run_count HM.out hm'
  have b5 := below_trans b4 b4.size b
  have z45 := b.size
  have H5 : Hid (OwnEvs w5 w3.heap.size n X w3.heap.size gs4 ∧ OwnDones w5 w2.heap.size m' (rC (beginBk sct) X) (fun i => rB (beginBk sct) X (i + 1)) G0 sl0 K0 ∧ OwnDones w5 w4.heap.size m' (rC (beginBk sct) X) (fun i => rB (beginBk sct) X (i + 1)) G1 sl1 K1 ∧ (0 < m' → ad1 = some ⟨G1, 0, none⟩)) := ⟨H4.out.1.below b, H4.out.2.below b, q1, had1⟩
  have HD1 : Hid (∀ x, doneBlocks m' (fun i => rB (beginBk sct) X (i + 1)) G1 K1 x → w4.heap.size ≤ x ∧ x < w5.heap.size) := fun x hx => q1.blocks hx
  clear b q1 had1 hm' H4
  -- eqDoneS(g0, w0)
  go_wp2_with fail
  refine (eqDoneS_same ad1 ad0 c1 c0 m' _ _ w5 (by omega) (fun i _ => eqSmall_tiny (HB.out (i + 1))) (H5.out.2.2.1.at' H5.out.2.2.2) (H5.out.2.1.at' H0.out.2)).mono ?_
  rintro e w6 ⟨rfl, b⟩
  have b6 := below_trans b5 b5.size b
  have H6 : Hid (OwnEvs w6 w3.heap.size n X w3.heap.size gs4 ∧ OwnDones w6 w2.heap.size m' (rC (beginBk sct) X) (fun i => rB (beginBk sct) X (i + 1)) G0 sl0 K0 ∧ OwnDones w6 w4.heap.size m' (rC (beginBk sct) X) (fun i => rB (beginBk sct) X (i + 1)) G1 sl1 K1) := ⟨H5.out.1.below b, H5.out.2.1.below b, H5.out.2.2.1.below b⟩
  have HA1 : Hid (0 < m' → ad1 = some ⟨G1, 0, none⟩) := H5.out.2.2.2
  have z56 := b.size
  clear b H5
  -- eqEventS(x1, toEventS(aEvents))
  go_wp2_with fail
  refine (toEventS_any ad c n X w6 hn1 (fun i hi => (HS.out i hi).2.2) (HG.out.1.below b6)).mono ?_
  rintro e w7 ⟨gs7, rfl, x7, b⟩
  have b7 := below_trans b6 b6.size b
  have H7 : Hid (OwnEvs w7 w3.heap.size n X w3.heap.size gs4 ∧ OwnDones w7 w2.heap.size m' (rC (beginBk sct) X) (fun i => rB (beginBk sct) X (i + 1)) G0 sl0 K0 ∧ OwnDones w7 w4.heap.size m' (rC (beginBk sct) X) (fun i => rB (beginBk sct) X (i + 1)) G1 sl1 K1 ∧ EventsAt w7 (some ⟨w6.heap.size, 0, none⟩) n X) := ⟨H6.out.1.below b, H6.out.2.1.below b, H6.out.2.2.below b, x7.at_⟩
  have z67 := b.size
  clear b x7 H6
  go_wp2_with fail
  refine (eqEventS_same _ _ n n n X w7 hn1 (fun i hi => (HS.out i hi).2.2) H7.out.1.at_ H7.out.2.2.2).mono ?_
  rintro e w8 ⟨rfl, b⟩
  have b8 := below_trans b7 b7.size b
  have H8 : Hid (OwnEvs w8 w3.heap.size n X w3.heap.size gs4 ∧ OwnDones w8 w2.heap.size m' (rC (beginBk sct) X) (fun i => rB (beginBk sct) X (i + 1)) G0 sl0 K0 ∧ OwnDones w8 w4.heap.size m' (rC (beginBk sct) X) (fun i => rB (beginBk sct) X (i + 1)) G1 sl1 K1) := ⟨H7.out.1.below b, H7.out.2.1.below b, H7.out.2.2.1.below b⟩
  have z78 := b.size
  clear b H7
  -- k = markEventS(x1, k)
  go_wp2_with fail
  refine (markEventS_any n n X 1 _ _ _ w8 (by omega) HK.out hn1 H8.out.1).mono ?_
  rintro e w9 ⟨rfl, hf⟩
  have z3 : w.heap.size ≤ w3.heap.size := b3.size
  have b9 : Below w.heap.size w w9 := b8.trans (hf.below b8.size (fun x hx => by have := (HX4.out x hx).1; omega))
  have H9 : Hid (OwnDones w9 w2.heap.size m' (rC (beginBk sct) X) (fun i => rB (beginBk sct) X (i + 1)) G0 sl0 K0 ∧ OwnDones w9 w4.heap.size m' (rC (beginBk sct) X) (fun i => rB (beginBk sct) X (i + 1)) G1 sl1 K1) := ⟨H8.out.2.1.fr hf (fun x hx e => by have := (HX4.out x e).1; have := HD.out x hx; omega), H8.out.2.2.fr hf (fun x hx e => by have := (HX4.out x e).2; have := (HD1.out x hx).1; omega)⟩
  have tk : ¬ ((kEv X 1 n : Nat) : Int) < 0 := by omega
  clear hf H8
  -- eqDoneS(g0, w0)
  go_wp2_with fail
  refine (eqDoneS_same ad1 ad0 c1 c0 m' _ _ w9 (by omega) (fun i _ => eqSmall_tiny (HB.out (i + 1))) (H9.out.2.at' HA1.out) (H9.out.1.at' H0.out.2)).mono ?_
  rintro e wA ⟨rfl, b⟩
  have bA := below_trans b9 b9.size b
  have HA : Hid (OwnDones wA w2.heap.size m' (rC (beginBk sct) X) (fun i => rB (beginBk sct) X (i + 1)) G0 sl0 K0 ∧ OwnDones wA w4.heap.size m' (rC (beginBk sct) X) (fun i => rB (beginBk sct) X (i + 1)) G1 sl1 K1) := ⟨H9.out.1.below b, H9.out.2.below b⟩
  clear b H9 tk
  -- m = markDoneS(g0, m)
  go_wp2_with fail
  refine (markDoneS_any c1 m' _ _ 1 _ G1 sl1 K1 wA ad1 HA1.out HKD.out (by omega) (fun i _ => Nat.le_trans (HB.out (i + 1)).o (by decide)) HA.out.2).mono ?_
  rintro e wB ⟨rfl, d1, d2, hf⟩
  have bB : Below w.heap.size w wB := bA.trans (hf.below bA.size (fun x hx => by have := (HD1.out x hx).1; omega))
  have HMk : Hid (MarkD wB m' (fun i => rB (beginBk sct) X (i + 1)) G1 sl1 ∧ OwnDones wB w2.heap.size m' (rC (beginBk sct) X) (fun i => rB (beginBk sct) X (i + 1)) G0 sl0 K0) := ⟨⟨d1, d2⟩, HA.out.1.fr hf (fun x hx e => by have := (HD1.out x e).1; have := HD.out x hx; omega)⟩
  clear d1 d2 hf HA
  -- q = heldDoneS(g0, q)
  go_wp2_with fail
  refine (heldDoneS_any c1 m' _ 1 G1 sl1 wB ad1 HA1.out (by omega) HKD.out (by omega) (fun i _ => Nat.le_trans (HB.out (i + 1)).o (by decide)) HMk.out.1.row HMk.out.1.bk).mono ?_
  rintro e wC ⟨rfl, b⟩
  have bC := below_trans bB bB.size b
  have HC : Hid (MarkD wC m' (fun i => rB (beginBk sct) X (i + 1)) G1 sl1 ∧ OwnDones wC w2.heap.size m' (rC (beginBk sct) X) (fun i => rB (beginBk sct) X (i + 1)) G0 sl0 K0) := ⟨HMk.out.1.below b, HMk.out.2.below b⟩
  have tk : ¬ ((kD (fun i => rB (beginBk sct) X (i + 1)) 1 m' : Nat) : Int) < 0 := by omega
  have tn : (((kD (fun i => rB (beginBk sct) X (i + 1)) 1 m' : Nat) : Int) != ((kD (fun i => rB (beginBk sct) X (i + 1)) 1 m' : Nat) : Int)) = false := by simp
  clear b HMk
  -- h0 := impl.Run(aSections, toEventS(aEvents))
  go_wp2_with fail
  refine (toEventS_any ad c n X wC hn1 (fun i hi => (HS.out i hi).2.2) (HG.out.1.below bC)).mono ?_
  rintro e wD ⟨gsD, rfl, xD, b⟩
  have bD := below_trans bC bC.size b
  have HDD : Hid (MarkD wD m' (fun i => rB (beginBk sct) X (i + 1)) G1 sl1 ∧ OwnDones wD w2.heap.size m' (rC (beginBk sct) X) (fun i => rB (beginBk sct) X (i + 1)) G0 sl0 K0 ∧ EventsAt wD (some ⟨wC.heap.size, 0, none⟩) n X) := ⟨HC.out.1.below b, HC.out.2.below b, xD.at_⟩
  clear b xD HC
  go_wp2_with fail
  refine (implRun_any A sct _ n n X wD (HG.out.2.1.below bD) (tab_below HG.out.2.2 bD) hn1 HS.out HDD.out.2.2).mono ?_
  rintro e wE ⟨m2, ad2, c2, G2, sl2, K2, hm', rfl, had2, q2, b⟩
  obtain rfl := run_count HM.out hm'
  have bE := below_trans bD bD.size b
  have HEE : Hid (MarkD wE m2 (fun i => rB (beginBk sct) X (i + 1)) G1 sl1 ∧ OwnDones wE w2.heap.size m2 (rC (beginBk sct) X) (fun i => rB (beginBk sct) X (i + 1)) G0 sl0 K0 ∧ DonesAt wE ad2 m2 (rC (beginBk sct) X) (fun i => rB (beginBk sct) X (i + 1))) := ⟨HDD.out.1.below b, HDD.out.2.1.below b, q2.at' had2⟩
  clear b q2 had2 hm' HDD
  -- eqDoneS(h0, w0)
  go_wp2_with fail
  refine (eqDoneS_same ad2 ad0 c2 c0 m2 _ _ wE (by omega) (fun i _ => eqSmall_tiny (HB.out (i + 1))) HEE.out.2.2 (HEE.out.2.1.at' H0.out.2)).mono ?_
  rintro e wF ⟨rfl, b⟩
  have bF := below_trans bE bE.size b
  have HF : Hid (MarkD wF m2 (fun i => rB (beginBk sct) X (i + 1)) G1 sl1) := HEE.out.1.below b
  clear b HEE
  -- q = heldDoneS(g0, q)
  go_wp2_with fail
  refine (heldDoneS_any c1 m2 _ 1 G1 sl1 wF ad1 HA1.out (by omega) HKD.out (by omega) (fun i _ => Nat.le_trans (HB.out (i + 1)).o (by decide)) HF.out.row HF.out.bk).mono ?_
  rintro e wH ⟨rfl, b⟩
  have bH := below_trans bF bF.size b
  clear b
  go_wp2
  go_ret
  exact ⟨rfl, bH⟩

end Go.Proofs.YtbgmgfnhmlpehabGreatDoor

/-
  The cell 'laid' of Do and Run: the program's eight errors, and the table of powers. Mine, by template (wip/gen.py; written by wip/plaid.py).
-/
namespace Go.Proofs.YtbgmgfnhmlpehabGreatDoor
open Go.RowKit Go.ChangeShapes Go.WideShapes

theorem gTab : Tryz.prog.globalNamed "internal/strconv.uint64pow10" = some 10 := by kernel_rfl
theorem gTabType : (Tryz.prog.globals[10]?).map (·.type) = some 207 := by kernel_rfl
theorem cellsT : Tryz.prog.cellsOf 207 = 20 := by kernel_rfl
theorem cellsE : Tryz.prog.cellsOf 198 = 1 := by kernel_rfl
theorem datumTab : (Rows.laid_internal_strconv_uint64pow10 : DataW Unit) = Lib.tabData .u64 Lib.pow10Tab := by kernel_rfl
theorem errStar : "*" ++ "errors.errorString" = "*errors.errorString" := by decide
theorem errCells : Tryz.prog.cellsOf 228 = 1 := by kernel_rfl
theorem strCells : Tryz.prog.cellsOf 9 = 1 := by kernel_rfl
theorem errRow (u : TypeId) (h : Tryz.prog.typeName? 3 u = some "*errors.errorString") : u = 226 :=
  typeName_ptr_named (nm := "errors.errorString") (by rw [errStar]; kernel_rfl) (by kernel_rfl) (by decide) u (by rw [errStar]; exact h)

set_option maxRecDepth 100000 in
theorem laid_err {n : String} {text : List UInt8} {r : List (String × DataW Unit)} {W : World} {g : Nat} (h : laidMet Tryz.prog ((n, .iface "*errors.errorString" (.ptr (.agg [.lit (.string text)]))) :: r) W)
    (hg : Tryz.prog.globalNamed n = some g) (ht : (Tryz.prog.globals[g]?).map (·.type) = some 73) :
    ∃ a : Addr, W.cell? ⟨g, 0, none⟩ = some (.iface 226 (.pointer (some a))) ∧ (∃ s : ByteArray, W.cell? a = some (.string s) ∧ s.data.toList = text) ∧ ∃ c t, W.heap[a.block]? = some (.cells c t (0, 0)) := by
  obtain ⟨ps, ⟨g0, t0, cs0, f0, p0, q0, hg0, ht0, hv0, hd0, _, e0⟩, _, hrows⟩ := h
  obtain rfl := Option.some.inj (hg.symm.trans hg0)
  obtain rfl := Option.some.inj (ht.symm.trans ht0)
  subst e0
  obtain ⟨l0⟩ := cs0
  have ok0 : ∀ u v, l0 = [.iface u v] → Value.okWide Tryz.prog W .any 0 u v := fun u v e => by
    subst e
    exact (hrows g 0 (by simp [MemPlace.row])).2 u v (by simpa using World.var?_cell hg0 hv0 0)
  obtain ⟨a0, s0, rfl, hc0, hs0, hz0, rfl⟩ := errorString_of_trod Tryz.underlying73 errRow Tryz.underlying226 Tryz.underlying228 rfl rfl Tryz.underlying9 errCells strCells hd0 ok0
  exact ⟨a0, by simpa using World.var?_cell hg0 hv0 0, ⟨s0, hc0, hs0⟩, (hrows a0.block a0.off (by simp [MemPlace.row])).1⟩

def textOf : DataW Unit → List UInt8
  | .iface _ (.ptr (.agg [.lit (.string t)])) => t
  | _ => []

/-- The errors' texts. -/
def errT : Nat → List UInt8
  | 0 => textOf Rows.laid_loop_example_handsignal_impl_errNoEvent
  | 1 => textOf Rows.laid_loop_example_handsignal_impl_errBookFull
  | 2 => textOf Rows.laid_loop_example_handsignal_impl_errState
  | 3 => textOf Rows.laid_loop_example_handsignal_impl_errTaken
  | 4 => textOf Rows.laid_loop_example_handsignal_impl_errNotHolder
  | 5 => textOf Rows.laid_loop_example_handsignal_impl_errLocked
  | 6 => textOf Rows.laid_loop_example_handsignal_impl_errMisheard
  | _ => textOf Rows.laid_loop_example_handsignal_impl_errSomebody

theorem errT_ne : ∀ i, i < 8 → ∀ j, j < 8 → i ≠ j → errT i ≠ errT j := by decide +kernel

theorem errN0 : Tryz.prog.globalNamed "loop.example/handsignal/impl.errNoEvent" = some 0 := by kernel_rfl
theorem errY0 : (Tryz.prog.globals[0]?).map (·.type) = some 73 := by kernel_rfl
theorem errN1 : Tryz.prog.globalNamed "loop.example/handsignal/impl.errBookFull" = some 1 := by kernel_rfl
theorem errY1 : (Tryz.prog.globals[1]?).map (·.type) = some 73 := by kernel_rfl
theorem errN2 : Tryz.prog.globalNamed "loop.example/handsignal/impl.errState" = some 2 := by kernel_rfl
theorem errY2 : (Tryz.prog.globals[2]?).map (·.type) = some 73 := by kernel_rfl
theorem errN3 : Tryz.prog.globalNamed "loop.example/handsignal/impl.errTaken" = some 3 := by kernel_rfl
theorem errY3 : (Tryz.prog.globals[3]?).map (·.type) = some 73 := by kernel_rfl
theorem errN4 : Tryz.prog.globalNamed "loop.example/handsignal/impl.errNotHolder" = some 4 := by kernel_rfl
theorem errY4 : (Tryz.prog.globals[4]?).map (·.type) = some 73 := by kernel_rfl
theorem errN5 : Tryz.prog.globalNamed "loop.example/handsignal/impl.errLocked" = some 5 := by kernel_rfl
theorem errY5 : (Tryz.prog.globals[5]?).map (·.type) = some 73 := by kernel_rfl
theorem errN6 : Tryz.prog.globalNamed "loop.example/handsignal/impl.errMisheard" = some 6 := by kernel_rfl
theorem errY6 : (Tryz.prog.globals[6]?).map (·.type) = some 73 := by kernel_rfl
theorem errN7 : Tryz.prog.globalNamed "loop.example/handsignal/impl.errSomebody" = some 7 := by kernel_rfl
theorem errY7 : (Tryz.prog.globals[7]?).map (·.type) = some 73 := by kernel_rfl

abbrev laidAll : List (String × DataW Unit) := Rows.fnExactDoRow.laid

theorem table_of {W : World} (h : laidMet Tryz.prog laidAll W) : Lib.TabIs Tryz.prog W "internal/strconv.uint64pow10" .u64 Lib.pow10Tab := by
  have h2 := laidMet.tail (laidMet.tail h)
  rw [datumTab] at h2
  exact Lib.tabIs_of_head gTab gTabType Tryz.underlying207 Tryz.underlying198 cellsE cellsT h2

def pick (a0 a1 a2 a3 a4 a5 a6 a7 : Addr) : Nat → Addr
  | 0 => a0
  | 1 => a1
  | 2 => a2
  | 3 => a3
  | 4 => a4
  | 5 => a5
  | 6 => a6
  | _ => a7

theorem errs_of {W : World} (h : laidMet Tryz.prog laidAll W) : ∃ A, Errs W A := by
  have h0 := laidMet.tail (laidMet.tail (laidMet.tail h))
  obtain ⟨a0, v0, s0, b0⟩ := laid_err (text := errT 0) h0 errN0 errY0
  have h1 := laidMet.tail h0
  obtain ⟨a1, v1, s1, b1⟩ := laid_err (text := errT 1) h1 errN1 errY1
  have h2 := laidMet.tail h1
  obtain ⟨a2, v2, s2, b2⟩ := laid_err (text := errT 2) h2 errN2 errY2
  have h3 := laidMet.tail h2
  obtain ⟨a3, v3, s3, b3⟩ := laid_err (text := errT 3) h3 errN3 errY3
  have h4 := laidMet.tail h3
  obtain ⟨a4, v4, s4, b4⟩ := laid_err (text := errT 4) h4 errN4 errY4
  have h5 := laidMet.tail h4
  obtain ⟨a5, v5, s5, b5⟩ := laid_err (text := errT 5) h5 errN5 errY5
  have h6 := laidMet.tail h5
  obtain ⟨a6, v6, s6, b6⟩ := laid_err (text := errT 6) h6 errN6 errY6
  have h7 := laidMet.tail h6
  obtain ⟨a7, v7, s7, b7⟩ := laid_err (text := errT 7) h7 errN7 errY7
  have hs : ∀ k, k < 8 → ∃ s : ByteArray, W.cell? ((pick a0 a1 a2 a3 a4 a5 a6 a7) k) = some (.string s) ∧ s.data.toList = errT k := fun k hk => by
    match k, hk with
    | 0, _ => exact s0
    | 1, _ => exact s1
    | 2, _ => exact s2
    | 3, _ => exact s3
    | 4, _ => exact s4
    | 5, _ => exact s5
    | 6, _ => exact s6
    | 7, _ => exact s7
  refine ⟨(pick a0 a1 a2 a3 a4 a5 a6 a7), fun k hk => ?_, fun k hk => ?_, fun i j hi hj ne e => ?_⟩
  · match k, hk with
    | 0, _ => exact v0
    | 1, _ => exact v1
    | 2, _ => exact v2
    | 3, _ => exact v3
    | 4, _ => exact v4
    | 5, _ => exact v5
    | 6, _ => exact v6
    | 7, _ => exact v7
  · match k, hk with
    | 0, _ => exact b0
    | 1, _ => exact b1
    | 2, _ => exact b2
    | 3, _ => exact b3
    | 4, _ => exact b4
    | 5, _ => exact b5
    | 6, _ => exact b6
    | 7, _ => exact b7
  · obtain ⟨s, hs1, hs2⟩ := hs i hi
    obtain ⟨t, ht1, ht2⟩ := hs j hj
    rw [e] at hs1
    obtain rfl : s = t := by
      have := Option.some.inj (hs1.symm.trans ht1)
      cases this
      rfl
    exact errT_ne i hi j hj ne (hs2.symm.trans ht2)

/-! ### A world for the witness -/

/-- What a listed table holds, as cells. -/
def valsOf : DataW Unit → Array Value
  | .agg ds => (ds.map fun d => match d with | .lit (.int k z) => Value.int k z | _ => Value.bool false).toArray
  | _ => #[]
def putTab (d : DataW Unit) : Obj → Obj
  | .cells _ t frozen => .cells (valsOf d) t frozen
  | o => o
noncomputable def low : Nat := (World.holding Tryz.prog default ⟨#[], #[], []⟩).heap.size
noncomputable def putErr (k : Nat) : Obj → Obj
  | .cells _ t frozen => .cells #[.iface 226 (.pointer (some ⟨low + k, 0, none⟩))] t frozen
  | o => o
def errB (k : Nat) : Obj := .cells #[.string ⟨(errT k).toArray⟩] 228
noncomputable def w0 (os : Os) : World := World.holding Tryz.prog os ⟨#[errB 0, errB 1, errB 2, errB 3, errB 4, errB 5, errB 6, errB 7], #[], []⟩
/-- A world in which the listed variables hold what their initialisers lay. -/
noncomputable def laidWorld (os : Os) : World :=
  { w0 os with heap := ((((((((((((w0 os).heap).modify 0 (putErr 0)).modify 1 (putErr 1)).modify 2 (putErr 2)).modify 3 (putErr 3)).modify 4 (putErr 4)).modify 5 (putErr 5)).modify 6 (putErr 6)).modify 7 (putErr 7)).modify 10 (putTab Rows.laid_internal_strconv_uint64pow10)).modify 11 (putTab Rows.laid_math_bits_deBruijn32tab)).modify 12 (putTab Rows.laid_math_bits_deBruijn64tab) }

theorem trodVars_length {H : Type} {enc : TypeId × Value → H} {P : Program} {w : World} {sp : Nat → Bool} : ∀ {ns : List String} {gs : List (DataW H)} {ps : List MemPlace}, DataW.TrodVars enc P w sp ns gs ps → gs.length = ns.length
  | [], [], _, _ => rfl
  | [], _ :: _, _, h => h.elim
  | _ :: _, [], _, h => h.elim
  | _ :: _, _ :: _, _, ⟨_, _, _, _, _, _, _, _, _, _, hs, _⟩ => by simp [trodVars_length hs]

theorem list8 {α : Type} {l : List α} (h : l.length = 8) : ∃ a b c d e f g i, l = [a, b, c, d, e, f, g, i] := by
  match l, h with
  | [a, b, c, d, e, f, g, i], _ => exact ⟨a, b, c, d, e, f, g, i, rfl⟩

end Go.Proofs.YtbgmgfnhmlpehabGreatDoor

/-
  A slice of events among the arguments, opened. Mine, by template (wip/gen.py).
-/
namespace Go.Proofs.YtbgmgfnhmlpehabGreatDoor
open Go.RowKit Go.Deep Go.Joins Go.ChangeShapes Go.WideShapes Go.ChangeAt

section
variable {H : Type} {enc : TypeId × Value → H} {w : World} {base : Nat} {spare : Nat → Bool} {held : Bool}

/-- What the form's reading says of an event's sizes. -/
def EvWf' (x : Ev) : Prop := x.holder.size ≤ maxLen ∧ x.text.size ≤ maxLen ∧ x.secs.length ≤ maxLen

theorem open_events' {fuel : Nat} {v : Value} {y : DataW H × List MemPlace} (h : DataW.trod enc Tryz.prog w base spare held fuel 47 [v] = some y) :
    ∃ ad c n X, v = .slice ad n c ∧ n ≤ maxLen ∧ (∀ i, i < n → EvWf' (X i)) ∧ EventsAt w ad n X := by
  rcases open_slice Tryz.underlying47 h with ⟨h0, _⟩ | ⟨a, len, cap, m, n, D, Pl, hcs, _, hl, hm, hmm, _, hx⟩
  · simp at h0
    exact ⟨none, 0, 0, fun _ => Ev.zero, h0, by simp, fun i hi => absurd hi (by simp), 0, 0, fun h => absurd h (by simp), fun i hi => absurd hi (by simp)⟩
  · simp at hcs
    have hlm : len ≤ m := by rw [hmm]; split <;> omega
    rw [cellsLEvent] at hx
    have hx' : ∀ i, i < len → ∃ x : Ev, EvWf' x ∧ ∃ ad c, Cells w ad x.secs.length (iV x.secs) ∧ ∀ j, j < 6 → w.cell? ((a.add (i * 6)).add j) = ([.int .i64 x.op, .int .i64 x.of_, .string x.holder, .int .i64 x.kind, .slice ad x.secs.length c, .string x.text] : List Value)[j]? := fun i hi => by
      obtain ⟨cs', h1, h2⟩ := hx i (by omega)
      have hlen := (World.cells?_some h1).2.1
      obtain ⟨x, ad, c, rfl, q1, q2⟩ := event_cells h2 hlen
      exact ⟨x, q1, ad, c, q2, (World.cells?_some h1).2.2⟩
    have : Inhabited Ev := ⟨Ev.zero⟩
    obtain ⟨f, hf⟩ := choose_lt (α := Ev) (n := len) (p := fun i x => EvWf' x ∧ ∃ ad c, Cells w ad x.secs.length (iV x.secs) ∧ ∀ j, j < 6 → w.cell? ((a.add (i * 6)).add j) = ([.int .i64 x.op, .int .i64 x.of_, .string x.holder, .int .i64 x.kind, .slice ad x.secs.length c, .string x.text] : List Value)[j]?) hx'
    obtain ⟨b, off, spot⟩ := a
    refine ⟨some ⟨b, off, spot⟩, cap, len, f, hcs, by omega, fun i hi => (hf i hi).1, b, off, fun hp => ?_, fun i hi => ?_⟩
    · obtain ⟨_, ad, c, _, q⟩ := hf 0 hp
      have hspot : spot = none := by simpa [Addr.add] using World.cell?_spot (q 0 (by omega))
      rw [hspot]
    · have hspot : spot = none := by
        obtain ⟨_, ad, c, _, q⟩ := hf 0 (by omega)
        simpa [Addr.add] using World.cell?_spot (q 0 (by omega))
      subst hspot
      obtain ⟨_, ad, c, q0, q⟩ := hf i hi
      simp only [Go.WideShapes.add_plain] at q
      exact ⟨ad, c, q 0 (by omega), q 1 (by omega), q 2 (by omega), q 3 (by omega), q 4 (by omega), q 5 (by omega), q0⟩

theorem open_events {a : Option Addr} {l k : Nat} {d : DataW H} {p : List MemPlace} (h : DataW.Trod enc Tryz.prog w base spare held 47 (.slice a l k) d p) :
    ∃ ad c n X, Value.slice a l k = .slice ad n c ∧ n ≤ maxLen ∧ (∀ i, i < n → EvWf' (X i)) ∧ EventsAt w ad n X := by
  obtain ⟨fuel, hf⟩ := h
  exact open_events' hf
end

end Go.Proofs.YtbgmgfnhmlpehabGreatDoor

/-
  The row of laws.FnExactRun, and its card. By template (wip/gen.py).
-/
namespace Go.Proofs.YtbgmgfnhmlpehabGreatDoor.fnExactRun
open Go.ChangeShapes Go.WideShapes Go.ChangeAt Go.RowKit

theorem own : ownKnob Tryz.prog.godebug = none := by kernel_rfl
theorem laidOut : laidOutB Tryz.prog = true := by kernel_rfl

abbrev wargs : Array Value := #[.int .i64 0, .slice none 0 0]

theorem laid_met (os : Os) : laidMet Tryz.prog Rows.fnExactRunRow.laid ((laidWorld os).forCall (fun _ _ => 0) ⟨#[], wargs, []⟩).memory :=
  laidMet_of_run' 8 (by kernel_rfl) (by kernel_rfl)
theorem reads (os : Os) {H : Type} (enc : TypeId × Value → H) : ∃ x, DataW.whole enc Tryz.prog ((laidWorld os).forCall (fun _ _ => 0) ⟨#[], wargs, []⟩).memory Tryz.f4.params.toList Rows.fnExactRunSpec.vars false wargs.toList 8 = some x :=
  Option.isSome_iff_exists.1 (by kernel_rfl)

set_option maxHeartbeats 4000000 in
set_option maxRecDepth 100000 in
theorem contract (H : Type) (enc : TypeId × Value → H) (W : World) (base : Nat) (args : Array Value) (ds gs : List (DataW H)) (before : List MemPlace)
    (hval0 : ∀ (j : Nat) t v, Tryz.f4.params[j]? = some t → args[j]? = some v → Value.okWide Tryz.prog W .any base t v)
    (hW : DataW.Whole enc Tryz.prog Tryz.f4.params.toList Rows.fnExactRunSpec.vars false W args.toList ds gs before) (hL : laidMetH Tryz.prog Rows.fnExactRunRow.laid W) :
    Calls Tryz.prog 4 args W fun e W' => ∃ v, e = .returned v ∧ Rows.fnExactRunSpec.post enc Tryz.prog Tryz.f4 false true false false W args v W' := by
  have hval : ∀ (j : Nat) t v, Tryz.f4.params[j]? = some t → args[j]? = some v → Value.okWide Tryz.prog W .any base t v := hval0
  have hW' := hW
  obtain ⟨p, q, hA0, hV, rfl, hfz, hnd⟩ := hW
  have hA : DataW.TrodAll enc Tryz.prog W 0 (fun _ => true) true Tryz.f4.params.toList args.toList ds p := hA0
  rw [Tryz.params4] at hA hval
  obtain ⟨v0, vs0, d0, ds0, p0, q0, hargs, rfl, rfl, h0, r0⟩ := trodAll_cons hA
  obtain ⟨v1, vs1, d1, ds1, p1, q1, rfl, rfl, rfl, h1, r1⟩ := trodAll_cons r0
  obtain ⟨rfl, rfl, rfl⟩ := trodAll_nil r1
  obtain rfl : args = #[v0, v1] := by cases args; simp_all
  have hV1 : DataW.TrodVars enc Tryz.prog W (fun _ => true) Rows.fnExactRunSpec.vars gs q := hV
  obtain ⟨g1, g2, g3, g4, g5, g6, g7, g8, rfl⟩ := list8 (trodVars_length hV1)
  have hL1 : laidMet Tryz.prog laidAll W := hL
  obtain ⟨A, hErr⟩ := errs_of hL1
  obtain ⟨a0, rfl, rfl, rfl, wi⟩ := open_int Tryz.underlying3 (hval 0 3 v0 rfl rfl) h0
  have k1 := h1
  have lt1 : ∀ x ∈ p1, x.block < W.heap.size := by obtain ⟨m, hm⟩ := k1; exact DataW.trod_lt m _ _ _ hm
  obtain ⟨sa, sn, sc, rfl⟩ := okWide_slice Tryz.underlying47 (hval 1 47 v1 rfl rfl)
  obtain ⟨ad, c, n, X, hv1, hn, hX, hE⟩ := open_events h1
  cases hv1
  clear hA0 hval0
  refine (fnExactRun_walk A a0 sa sc sn X W hErr (table_of hL1) hn hX hE).mono fun e W' ⟨he, bel⟩ => ?_
  subst he
  exact ⟨_, rfl, _, _, _, [], _, _, hW', trodAll_mk1 (shut_bool Tryz.underlying4 _), (trodAll_cons_mk (shut_int Tryz.underlying3 wi) (trodAll_cons_mk (Below.trod laidOut (by kernel_rfl) (of_decide_eq_true (by kernel_rfl)) k1 bel lt1) trodAll_mk0)), Below.trodVars laidOut bel (by kernel_rfl) hV1, bel.frame _, fun h => by cases h⟩

set_option maxHeartbeats 4000000 in
set_option maxRecDepth 100000 in
theorem lifted (os : Os) (started : os.Started) (H : Type) (enc : TypeId × Value → H) (F : Stop.Interp) :
    ReturnsInHanded {} Tryz.checked os 4 .any ((OpenSpec.ofChange Rows.fnExactRunSpec).preRow enc Tryz.prog Tryz.f4 Rows.fnExactRunRow.domain false Rows.fnExactRunRow.laid) (((OpenSpec.ofChange Rows.fnExactRunSpec).at F).post enc Tryz.prog Tryz.f4 false true false false) := by
  obtain ⟨x, hx⟩ := reads os enc
  refine returnsInHanded_of_row (C := Tryz.checked) (s := OpenSpec.ofChange Rows.fnExactRunSpec) own started (by kernel_rfl) Tryz.func4
    (witness_row_at (enc := enc) (C := Tryz.checked) false (laidWorld os) wargs rfl (by kernel_rfl) (by kernel_rfl) (by kernel_rfl)
      (OpenSpec.preRow_of_cond 8 hx rfl (fun k hk => by cases hk) (by kernel_rfl) (laid_met os))) ?_
  intro W base args ds gs before hval hW _ _ _ hL _ _
  exact contract H enc W base args ds gs before hval hW hL

theorem over : Rows.fnExactRunRow.holds Tryz.pinned (OpenSpec.ofChange Rows.fnExactRunSpec) :=
  OpenClaim.holds_of_cond 4 Tryz.f4 rfl rfl rfl rfl rfl rfl rfl ⟨rfl, rfl, rfl, rfl, rfl⟩ rfl rfl rfl rfl rfl (by kernel_rfl) Tryz.func4 (by kernel_rfl)
    (of_decide_eq_true (by kernel_rfl)) (by unfold Func.isWrapper; first | (rw [if_pos (by decide +kernel)]; kernel_rfl) | (rw [if_neg (by decide +kernel)]; exact ⟨rfl, rfl⟩))
    (fun os started H enc _ F => by rw [OpenClaim.pre_eq_preRow]; exact lifted os started H enc F)

/-- No parameter wants a stand-in. -/
theorem plain (f : FuncId) (fn : Func) (hf : Tryz.pinned.checked.prog.funcNamed "loop.example/handsignal/laws.FnExactRun" = some f) (hfn : Tryz.pinned.checked.prog.funcs[f]? = some fn) :
    true = Tryz.pinned.checked.prog.looks [] ∧ ∀ (j : Nat) t, fn.params[j]? = some t → Tryz.pinned.checked.prog.wantsStandIn t = false := by
  obtain rfl : f = 4 := Option.some.inj ((show Tryz.prog.funcNamed "loop.example/handsignal/laws.FnExactRun" = some 4 by kernel_rfl).symm.trans hf) |>.symm
  obtain rfl : fn = Tryz.f4 := (Option.some.inj (Tryz.func4.symm.trans hfn)).symm
  refine ⟨by kernel_rfl, fun j t ht => ?_⟩
  rw [Tryz.params4] at ht
  have hm : t ∈ [3, 47] := by simpa using Array.mem_of_getElem? ht
  have hall : ([3, 47].all fun u => !Tryz.prog.wantsStandIn u) = true := by kernel_rfl
  exact (show Tryz.prog.wantsStandIn t = false by simpa using List.all_eq_true.1 hall t hm)

theorem card : Rows.FnExactRunCardSaid :=
  Claim7.holds_tied_plain_at .later [] _ _ _ _ over (fun _ h => by cases h) (by kernel_rfl) (fun _ h => by cases h) fnExactRun_row_tie rfl ⟨rfl, rfl⟩ (by kernel_rfl) rfl plain (by kernel_rfl)

end Go.Proofs.YtbgmgfnhmlpehabGreatDoor.fnExactRun
namespace Go.Proofs.YtbgmgfnhmlpehabGreatDoor
theorem fnExactRun_card : Rows.FnExactRunCardSaid := fnExactRun.card
#print axioms fnExactRun_card
end Go.Proofs.YtbgmgfnhmlpehabGreatDoor
