/-
  The contracts of laws.toIntS, toBoolS, toOrder, toOrderS, toBook: new memory that holds the same. Mine, by template (wip/gen.py).
-/
import Derived.Test.YtbgmgfnhmlpehabDoorOwn
import Derived.Test.YtbgmgfnhmlpehabDoorSz
namespace Go.Proofs.YtbgmgfnhmlpehabDoor
open Go.RowKit

theorem Tryd.infoInt : (Tryd.prog.info? 3).map (fun i => (i.zero, i.size, i.bytes)) = some (some (.int .i64 0), 1, 8) := by kernel_rfl
theorem Tryd.infoBool : (Tryd.prog.info? 4).map (fun i => (i.zero, i.size, i.bytes)) = some (some (.bool false), 1, 1) := by kernel_rfl
theorem Tryd.infoOrder : (Tryd.prog.info? 75).map (fun i => (i.zero, i.size, i.bytes)) = some (some (.agg #[.string ByteArray.empty, .int .i64 0, .slice none 0 0, .int .i64 0]), 4, 56) := by kernel_rfl

set_option maxHeartbeats 400000 in
theorem toIntS_any (a : Option Addr) (c n : Nat) (V : Nat → Int) (w : World) (hn : n ≤ 1048576) (K : Cells w a n (fun i => .int .i64 (V i))) :
    Calls Tryd.prog 21 #[.slice a n c] w fun e w' => e = .returned (.slice (some ⟨w.heap.size, 0, none⟩) n n) ∧ w'.rowIs w.heap.size 3 n (fun i => .int .i64 (V i)) ∧ Below w.heap.size w w' := by
  obtain ⟨b, o, h1, g1⟩ := K
  have hmk := run_make_row' (P := Tryd.prog) 22 3 (.int .i64 0) 8 Tryd.underlying22 Tryd.infoInt rfl .i64 .i64 n (by omega) (by omega)
  go_enter Tryd.func21, Tryd.ntmps21
  go_wp2
  clear hmk
  go_loopw [4] (fun i wr => ∃ k : Nat, k ≤ n ∧ i = .int .i64 k ∧ Below w.heap.size w wr ∧ wr.rowIs w.heap.size 3 n (fun j => if j < k then .int .i64 (V j) else .int .i64 0)) (fun i _ => n - (intOf i).toNat)
  case atStart => exact ⟨0, Nat.zero_le _, rfl, below1 _ _, (World.rowIs_made w _ n _).congr (fun j _ => by simp)⟩
  case round =>
    obtain ⟨k, hk, rfl, hb, hrow⟩ := hrel
    by_cases hlt : k < n
    · obtain rfl := h1 (by omega)
      have e1 : wr.cell? ⟨b, o + k, none⟩ = some (.int .i64 (V k)) := (hb.cell (p := ⟨b, o + k, none⟩) (World.block_lt_of_cell? _ _ (g1 k hlt))).trans (g1 k hlt)
      have e2 := hrow.cell hlt
      have e3 := hrow.frozen k
      clear g1 h1
      go_wp2
      go_roundw
      case rel =>
        refine ⟨k + 1, by omega, by go_num, hb.setCell (Nat.le_refl _) _, (hrow.set k _).congr (fun j _ => ?_)⟩
        by_cases ej : j = k
        · subst ej; simp
        · rw [if_neg ej]
          by_cases hj : j < k
          · rw [if_pos hj, if_pos (by omega)]
          · rw [if_neg hj, if_neg (by omega)]
      case measure => simp [intOf]; omega
    · clear g1 h1
      go_wp2
      go_ret
      exact ⟨rfl, hrow.congr (fun j hj => by rw [if_pos (by omega)]), hb⟩

def zOrd : Array Value := #[.string ByteArray.empty, .int .i64 0, .slice none 0 0, .int .i64 0]
theorem zOrd_size : zOrd.size = 4 := rfl

theorem make_orders (n : Nat) (hn : n ≤ 1048576) (w : World) :
    (Instr.makeSlice 153 (.int .i64 (n : Int)) (.int .i64 (n : Int))).run Tryd.prog w = .ok (.slice (some ⟨w.heap.size, 0, none⟩) n n) (w.alloc (.cells (madeCells zOrd (n * 4)) 75)) := by
  obtain ⟨i, hi, hz⟩ := Option.map_eq_some_iff.1 Tryd.infoOrder
  simp only [Prod.mk.injEq] at hz
  obtain ⟨hz, hs, hb⟩ := hz
  have h := run_make (P := Tryd.prog) w 153 75 i _ Tryd.underlying153 hi hz .i64 .i64 n n (by omega) (Int.le_refl _) (by rw [hb]; omega) (by omega)
  rw [hs, Int.toNat_natCast] at h
  exact h

theorem made_orders (w : World) (n : Nat) (X : Nat → Ord) (sa : Nat → Option Addr) (sc : Nat → Nat) : (w.alloc (.cells (madeCells zOrd (n * 4)) 75)).rowIs w.heap.size 75 (n * 4) (laidCells X sa sc (fun j => zOrd[j % 4]!) 0) := by
  refine ⟨_, Deep.blk_alloc_new _ _, size_madeCells _ _, fun j hj => ?_⟩
  simp [madeCells, hj, laidCells, zOrd_size]

/-- The abstract blocks of a book that 'toBook' lays. -/
theorem ownBook_mk {w : World} {lo : Nat} {B : Bk} {ao al ac : Option Addr} {co cl cc : Nat} {K : Blk} (h1 : OwnOrds w lo ao B.orders.length (fun i => B.orders.getD i Ord.zero) K.G K.gs K.sa K.sc) (h2 : OwnBools w lo al B.locked.length (fun i => B.locked.getD i false) K.L) (h3 : OwnBools w lo ac B.occ.length (fun i => B.occ.getD i false) K.C)
    (q1 : 0 < B.orders.length → K.G < K.L) (q2 : 0 < B.locked.length → K.L < K.C) (q4 : K.L ≤ K.C) (q3 : ∀ i, i < B.orders.length → 0 < (B.orders.getD i Ord.zero).secs.length → K.gs i < K.L) :
    OwnBook w lo (.agg #[.int .i64 B.n, .slice ao B.orders.length co, .slice al B.locked.length cl, .slice ac B.occ.length cc]) B K :=
  ⟨⟨ao, co, al, cl, ac, cc, rfl, h1, h2, h3⟩, fun a _ => by have := q1 a; omega, fun a _ => by have := q1 a; omega, fun a _ => by have := q2 a; omega, fun _ i hi hp => by have := q3 i hi hp; omega, fun _ i hi hp => by have := q3 i hi hp; omega⟩

end Go.Proofs.YtbgmgfnhmlpehabDoor
