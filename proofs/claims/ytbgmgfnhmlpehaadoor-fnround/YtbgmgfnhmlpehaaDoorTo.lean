/-
  The contracts of laws.toIntS, toBoolS, toOrder, toOrderS, toBook: new memory that holds the same. Mine, by template (wip/gen.py).
-/
import Derived.Test.YtbgmgfnhmlpehaaDoorOwn
import Derived.Test.YtbgmgfnhmlpehaaDoorSz
namespace Go.Proofs.YtbgmgfnhmlpehaaDoor
open Go.RowKit

theorem Tryd.infoInt : (Tryd.prog.info? 3).map (fun i => (i.zero, i.size, i.bytes)) = some (some (.int .i64 0), 1, 8) := by kernel_rfl
theorem Tryd.infoBool : (Tryd.prog.info? 4).map (fun i => (i.zero, i.size, i.bytes)) = some (some (.bool false), 1, 1) := by kernel_rfl
theorem Tryd.infoOrder : (Tryd.prog.info? 39).map (fun i => (i.zero, i.size, i.bytes)) = some (some (.agg #[.string ByteArray.empty, .int .i64 0, .slice none 0 0, .int .i64 0]), 4, 56) := by kernel_rfl

set_option maxHeartbeats 400000 in
theorem toIntS_any (a : Option Addr) (c n : Nat) (V : Nat → Int) (w : World) (hn : n ≤ 1048576) (K : Cells w a n (fun i => .int .i64 (V i))) :
    Calls Tryd.prog 85 #[.slice a n c] w fun e w' => e = .returned (.slice (some ⟨w.heap.size, 0, none⟩) n n) ∧ w'.rowIs w.heap.size 3 n (fun i => .int .i64 (V i)) ∧ Below w.heap.size w w' := by
  obtain ⟨b, o, h1, g1⟩ := K
  have hmk := run_make_row' (P := Tryd.prog) 35 3 (.int .i64 0) 8 Tryd.underlying35 Tryd.infoInt rfl .i64 .i64 n (by omega) (by omega)
  go_enter Tryd.func85, Tryd.ntmps85
  go_wp2
  clear hmk
  go_loopw [4] (fun i wr => ∃ k : Nat, k ≤ n ∧ i = .int .i64 k ∧ Below w.heap.size w wr ∧ wr.rowIs w.heap.size 3 n (fun j => if j < k then .int .i64 (V j) else .int .i64 0)) (fun i _ => n - (intOf i).toNat)
  case atStart => exact ⟨0, Nat.zero_le _, rfl, below1 _ _, (World.rowIs_made w _ n _).congr (fun j _ => by simp)⟩
  case round =>
    obtain ⟨k, hk, rfl, hb, hrow⟩ := hrel
    by_cases hlt : k < n
    · obtain rfl := h1 (by omega)
      have e1 : wr.cell? ⟨b, o + k, none⟩ = some (.int .i64 (V k)) := (hb.cell (p := ⟨b, o + k, none⟩) (World.block_lt_of_cell? _ _ (g1 k hlt))).trans (g1 k hlt)
      have e2 := hrow.cell hlt
      have e3 := hrow.frozen k
      clear g1 h1
      go_wp2
      go_roundw
      case rel =>
        refine ⟨k + 1, by omega, by go_num, hb.setCell (Nat.le_refl _) _, (hrow.set k _).congr (fun j _ => ?_)⟩
        by_cases ej : j = k
        · subst ej; simp
        · rw [if_neg ej]
          by_cases hj : j < k
          · rw [if_pos hj, if_pos (by omega)]
          · rw [if_neg hj, if_neg (by omega)]
      case measure => simp [intOf]; omega
    · clear g1 h1
      go_wp2
      go_ret
      exact ⟨rfl, hrow.congr (fun j hj => by rw [if_pos (by omega)]), hb⟩

set_option maxHeartbeats 400000 in
theorem toBoolS_any (a : Option Addr) (c n : Nat) (V : Nat → Bool) (w : World) (hn : n ≤ 1048576) (K : Cells w a n (fun i => .bool (V i))) :
    Calls Tryd.prog 36 #[.slice a n c] w fun e w' => e = .returned (.slice (some ⟨w.heap.size, 0, none⟩) n n) ∧ w'.rowIs w.heap.size 4 n (fun i => .bool (V i)) ∧ Below w.heap.size w w' := by
  obtain ⟨b, o, h1, g1⟩ := K
  have hmk := run_make_row' (P := Tryd.prog) 27 4 (.bool false) 1 Tryd.underlying27 Tryd.infoBool rfl .i64 .i64 n (by omega) (by omega)
  go_enter Tryd.func36, Tryd.ntmps36
  go_wp2
  clear hmk
  go_loopw [4] (fun i wr => ∃ k : Nat, k ≤ n ∧ i = .int .i64 k ∧ Below w.heap.size w wr ∧ wr.rowIs w.heap.size 4 n (fun j => if j < k then .bool (V j) else .bool false)) (fun i _ => n - (intOf i).toNat)
  case atStart => exact ⟨0, Nat.zero_le _, rfl, below1 _ _, (World.rowIs_made w _ n _).congr (fun j _ => by simp)⟩
  case round =>
    obtain ⟨k, hk, rfl, hb, hrow⟩ := hrel
    by_cases hlt : k < n
    · obtain rfl := h1 (by omega)
      have e1 : wr.cell? ⟨b, o + k, none⟩ = some (.bool (V k)) := (hb.cell (p := ⟨b, o + k, none⟩) (World.block_lt_of_cell? _ _ (g1 k hlt))).trans (g1 k hlt)
      have e2 := hrow.cell hlt
      have e3 := hrow.frozen k
      clear g1 h1
      go_wp2
      go_roundw
      case rel =>
        refine ⟨k + 1, by omega, by go_num, hb.setCell (Nat.le_refl _) _, (hrow.set k _).congr (fun j _ => ?_)⟩
        by_cases ej : j = k
        · subst ej; simp
        · rw [if_neg ej]
          by_cases hj : j < k
          · rw [if_pos hj, if_pos (by omega)]
          · rw [if_neg hj, if_neg (by omega)]
      case measure => simp [intOf]; omega
    · clear g1 h1
      go_wp2
      go_ret
      exact ⟨rfl, hrow.congr (fun j hj => by rw [if_pos (by omega)]), hb⟩

set_option maxHeartbeats 400000 in
theorem toOrder_any (s : ByteArray) (k t : Int) (a : Option Addr) (n c : Nat) (V : Nat → Int) (w : World) (hn : n ≤ 1048576) (K : Cells w a n (fun i => .int .i64 (V i))) :
    Calls Tryd.prog 62 #[.agg #[.string s, .int .i64 k, .slice a n c, .int .i64 t]] w fun e w' => ∃ g, e = .returned (.agg #[.string s, .int .i64 k, .slice (some ⟨g, 0, none⟩) n n, .int .i64 t]) ∧ w.heap.size ≤ g ∧ w'.rowIs g 3 n (fun i => .int .i64 (V i)) ∧ Below w.heap.size w w' := by
  go_enter Tryd.func62, Tryd.ntmps62
  go_wp2_with fail
  have B3 : Below w.heap.size w (((w.alloc (.cells #[.string s, .int .i64 k, .slice a n c, .int .i64 t] 109)).alloc (.cells #[.string ⟨#[]⟩, .int .i64 0, .slice none 0 0, .int .i64 0] 39)).alloc (.cells #[.string s, .int .i64 k, .slice none 0 0, .int .i64 0] 39)) := below3 _ _ _ _
  refine (toIntS_any a c n V _ hn (K.below B3)).mono ?_
  rintro e w1 ⟨rfl, hrow, hb⟩
  obtain ⟨hc, hf⟩ := bcell hb
  have z1 : w.heap.size + 1 + 1 + 1 < w1.heap.size := by have := hrow.lt; simpa using this
  have B4 := below_trans B3 B3.size hb
  have hrow' : w1.rowIs (w.heap.size + 1 + 1 + 1) 3 n (fun i => .int .i64 (V i)) := by simpa using hrow
  have HR : Hid (w1.rowIs (w.heap.size + 1 + 1 + 1) 3 n (fun i => .int .i64 (V i)) ∧ Below w.heap.size w w1) := ⟨hrow', B4⟩
  clear hb B3 B4 hrow hrow'
  go_wp2
  refine bodyPost_ret (v := .agg #[.string s, .int .i64 k, .slice (some ⟨w.heap.size + 1 + 1 + 1, 0, none⟩) n n, .int .i64 t]) (by simp [results, Tryd.results62, go_sem, hc]) rfl ⟨_, rfl, by omega, ?_, ?_⟩
  · obtain ⟨hrow, _⟩ := HR.out
    exact (((((hrow.setOther (by show w.heap.size + 1 + 1 + 1 ≠ w.heap.size + 1 + 1; omega) _).setOther (by show w.heap.size + 1 + 1 + 1 ≠ w.heap.size + 1 + 1; omega) _).setOther (by show w.heap.size + 1 + 1 + 1 ≠ w.heap.size + 1; omega) _).setOther (by show w.heap.size + 1 + 1 + 1 ≠ w.heap.size + 1; omega) _).setOther (by show w.heap.size + 1 + 1 + 1 ≠ w.heap.size + 1; omega) _).setOther (by show w.heap.size + 1 + 1 + 1 ≠ w.heap.size + 1; omega) _
  · obtain ⟨_, hb⟩ := HR.out
    exact (((((hb.setCell (by simp; omega) _).setCell (by simp; omega) _).setCell (by simp) _).setCell (by simp) _).setCell (by simp) _).setCell (by simp) _

def zOrd : Array Value := #[.string ByteArray.empty, .int .i64 0, .slice none 0 0, .int .i64 0]
theorem zOrd_size : zOrd.size = 4 := rfl

theorem make_orders (n : Nat) (hn : n ≤ 1048576) (w : World) :
    (Instr.makeSlice 26 (.int .i64 (n : Int)) (.int .i64 (n : Int))).run Tryd.prog w = .ok (.slice (some ⟨w.heap.size, 0, none⟩) n n) (w.alloc (.cells (madeCells zOrd (n * 4)) 39)) := by
  obtain ⟨i, hi, hz⟩ := Option.map_eq_some_iff.1 Tryd.infoOrder
  simp only [Prod.mk.injEq] at hz
  obtain ⟨hz, hs, hb⟩ := hz
  have h := run_make (P := Tryd.prog) w 26 39 i _ Tryd.underlying26 hi hz .i64 .i64 n n (by omega) (Int.le_refl _) (by rw [hb]; omega) (by omega)
  rw [hs, Int.toNat_natCast] at h
  exact h

theorem made_orders (w : World) (n : Nat) (X : Nat → Ord) (sa : Nat → Option Addr) (sc : Nat → Nat) : (w.alloc (.cells (madeCells zOrd (n * 4)) 39)).rowIs w.heap.size 39 (n * 4) (laidCells X sa sc (fun j => zOrd[j % 4]!) 0) := by
  refine ⟨_, Deep.blk_alloc_new _ _, size_madeCells _ _, fun j hj => ?_⟩
  simp [madeCells, hj, laidCells, zOrd_size]

set_option maxHeartbeats 400000 in
theorem toOrderS_any (a : Option Addr) (c n : Nat) (X : Nat → Ord) (w : World) (hn : n ≤ 1048576) (hsec : ∀ i, i < n → (X i).secs.length ≤ 1048576)
    (K : ∃ b o, (0 < n → a = some ⟨b, o, none⟩) ∧ ∀ i, i < n → ∃ sa sc, OrdAt w b (o + i * 4) (X i) sa sc) :
    Calls Tryd.prog 35 #[.slice a n c] w fun e w' => ∃ gs sa sc, e = .returned (.slice (some ⟨w.heap.size, 0, none⟩) n n) ∧ OwnOrds w' w.heap.size (some ⟨w.heap.size, 0, none⟩) n X w.heap.size gs sa sc ∧ Below w.heap.size w w' := by
  obtain ⟨b, o, h1, g1⟩ := K
  have hmk := make_orders n hn
  go_enter Tryd.func35, Tryd.ntmps35
  go_wp2
  clear hmk
  go_loopw [4] (fun i wr => ∃ (k : Nat) (gs : Nat → Nat) (sa : Nat → Option Addr) (sc : Nat → Nat), k ≤ n ∧ i = .int .i64 k ∧ Below w.heap.size w wr ∧ wr.rowIs w.heap.size 39 (n * 4) (laidCells X sa sc (fun j => zOrd[j % 4]!) k) ∧
      (∀ i, i < k → sa i = some ⟨gs i, 0, none⟩ ∧ wr.rowIs (gs i) 3 (X i).secs.length (iV (X i).secs) ∧ w.heap.size < gs i) ∧ (∀ i j, i < k → j < k → gs i = gs j → i = j)) (fun i _ => n - (intOf i).toNat)
  case atStart => exact ⟨0, fun _ => 0, fun _ => none, fun _ => 0, Nat.zero_le _, rfl, below1 _ _, made_orders w n _ _ _, fun i hi => absurd hi (by omega), fun i j hi => absurd hi (by omega)⟩
  case round =>
    obtain ⟨k, gs, sa, sc, hk, rfl, hb, hrow, hse, hinj⟩ := hrel
    by_cases hlt : k < n
    · obtain rfl := h1 (by omega)
      obtain ⟨sa0, sc0, q⟩ := g1 k hlt
      have hsk := hsec k hlt
      have q' := q.below hb
      clear g1 h1 hsec q
      obtain ⟨x0, x1, x2, x3, x4⟩ := q'
      have HS : Hid (∀ i, i < k → sa i = some ⟨gs i, 0, none⟩ ∧ wr.rowIs (gs i) 3 (X i).secs.length (iV (X i).secs) ∧ w.heap.size < gs i) := hse
      have HI : Hid (∀ i j, i < k → j < k → gs i = gs j → i = j) := hinj
      clear hse hinj
      go_wp2_with fail
      refine (toOrder_any _ _ _ sa0 _ sc0 (fun i => (X k).secs.getD i 0) _ hsk x4).mono ?_
      rintro e w1 ⟨g, rfl, hg, hrg, hb1⟩
      have hl : w.heap.size < wr.heap.size := hrow.lt
      have hrow1 : w1.rowIs w.heap.size 39 (n * 4) (laidCells X sa sc (fun j => zOrd[j % 4]!) k) := hrow.of_block (hb1.block _ hl)
      have d0 := hrow1.cell (i := k * 4) (by omega)
      have d1 := hrow1.cell (i := k * 4 + 1) (by omega)
      have d2 := hrow1.cell (i := k * 4 + 2) (by omega)
      have d3 := hrow1.cell (i := k * 4 + 3) (by omega)
      have f0 := hrow1.frozen (k * 4)
      have f1 := hrow1.frozen (k * 4 + 1)
      have f2 := hrow1.frozen (k * 4 + 2)
      have f3 := hrow1.frozen (k * 4 + 3)
      have HB : Hid (Below wr.heap.size wr w1) := hb1
      clear hb1 hrow
      go_wp2
      go_roundw
      case rel =>
        have hbW : Below w.heap.size w w1 := below_trans hb hb.size HB.out
        refine ⟨k + 1, fun i => if i = k then g else gs i, fun i => if i = k then some ⟨g, 0, none⟩ else sa i, fun i => if i = k then (X k).secs.length else sc i, by omega, by go_num,
          (((hbW.setCell (Nat.le_refl _) _).setCell (Nat.le_refl _) _).setCell (Nat.le_refl _) _).setCell (Nat.le_refl _) _, laid_step hrow1 _ _, ?_, ?_⟩
        · intro i hi
          by_cases e : i = k
          · subst e
            simp only [if_true]
            exact ⟨trivial, ((((hrg.setOther (by show g ≠ w.heap.size; omega) _).setOther (by show g ≠ w.heap.size; omega) _).setOther (by show g ≠ w.heap.size; omega) _).setOther (by show g ≠ w.heap.size; omega) _), by omega⟩
          · simp only [if_neg e]
            obtain ⟨u1, u2, u3⟩ := HS.out i (by omega)
            have u4 : w1.rowIs (gs i) 3 (X i).secs.length (iV (X i).secs) := u2.of_block (HB.out.block _ u2.lt)
            exact ⟨u1, ((((u4.setOther (by show gs i ≠ w.heap.size; omega) _).setOther (by show gs i ≠ w.heap.size; omega) _).setOther (by show gs i ≠ w.heap.size; omega) _).setOther (by show gs i ≠ w.heap.size; omega) _), u3⟩
        · intro i j hi hj e
          by_cases ei : i = k
          · by_cases ej : j = k
            · omega
            · simp only [if_pos ei, if_neg ej] at e
              have := (HS.out j (by omega)).2.1.lt
              omega
          · by_cases ej : j = k
            · simp only [if_neg ei, if_pos ej] at e
              have := (HS.out i (by omega)).2.1.lt
              omega
            · simp only [if_neg ei, if_neg ej] at e
              exact HI.out i j (by omega) (by omega) e
      case measure => simp [intOf]; omega
    · obtain rfl : k = n := by omega
      have HR : Hid (wr.rowIs w.heap.size 39 (k * 4) (laidCells X sa sc (fun j => zOrd[j % 4]!) k) ∧ (∀ i, i < k → sa i = some ⟨gs i, 0, none⟩ ∧ wr.rowIs (gs i) 3 (X i).secs.length (iV (X i).secs) ∧ w.heap.size < gs i) ∧ (∀ i j, i < k → j < k → gs i = gs j → i = j)) := ⟨hrow, hse, hinj⟩
      clear g1 h1 hsec hrow hse hinj
      go_wp2
      go_ret
      obtain ⟨hrow, hse, hinj⟩ := HR.out
      refine ⟨gs, sa, sc, rfl, ⟨fun _ => rfl, fun _ => preOf (hrow.congr (fun j hj => ?_)), fun _ => Nat.le_refl _, fun i hi _ => ⟨(hse i hi).1, preOf (hse i hi).2.1⟩, fun i hi _ => ⟨by have := (hse i hi).2.2; omega, by have := (hse i hi).2.2; omega⟩, fun i j hi hj _ _ => hinj i j hi hj⟩, hb⟩
      unfold laidCells
      rw [if_pos (by omega)]

/-- The abstract blocks of a book that 'toBook' lays. -/
theorem ownBook_mk {w : World} {lo : Nat} {B : Bk} {ao al ac : Option Addr} {co cl cc : Nat} {K : Blk} (h1 : OwnOrds w lo ao B.orders.length (fun i => B.orders.getD i Ord.zero) K.G K.gs K.sa K.sc) (h2 : OwnBools w lo al B.locked.length (fun i => B.locked.getD i false) K.L) (h3 : OwnBools w lo ac B.occ.length (fun i => B.occ.getD i false) K.C)
    (q1 : 0 < B.orders.length → K.G < K.L) (q2 : 0 < B.locked.length → K.L < K.C) (q4 : K.L ≤ K.C) (q3 : ∀ i, i < B.orders.length → 0 < (B.orders.getD i Ord.zero).secs.length → K.gs i < K.L) :
    OwnBook w lo (.agg #[.int .i64 B.n, .slice ao B.orders.length co, .slice al B.locked.length cl, .slice ac B.occ.length cc]) B K :=
  ⟨⟨ao, co, al, cl, ac, cc, rfl, h1, h2, h3⟩, fun a _ => by have := q1 a; omega, fun a _ => by have := q1 a; omega, fun a _ => by have := q2 a; omega, fun _ i hi hp => by have := q3 i hi hp; omega, fun _ i hi hp => by have := q3 i hi hp; omega⟩

set_option maxHeartbeats 1000000 in
theorem toBook_any (v : Value) (B : Bk) (w : World) (hn : wBk B ≤ 1048576) (G : BookAt w v B) :
    Calls Tryd.prog 16 #[v] w fun e w' => ∃ v' K, e = .returned v' ∧ OwnBook w' w.heap.size v' B K ∧ Below w.heap.size w w' := by
  obtain ⟨ao, co, al, cl, ac, cc, rfl, p1, p2, p3⟩ := G
  have hs : ∀ i, i < B.orders.length → (B.orders.getD i Ord.zero).secs.length ≤ 1048576 := fun i hi => by
    have := wOrds_mem B.orders i hi
    unfold wBk at hn
    unfold wOrd at this
    omega
  have hO : B.orders.length ≤ 1048576 := by unfold wBk at hn; omega
  have hL : B.locked.length ≤ 1048576 := by unfold wBk at hn; omega
  have hC : B.occ.length ≤ 1048576 := by unfold wBk at hn; omega
  go_enter Tryd.func16, Tryd.ntmps16
  go_wp2_with fail
  have B3 : Below w.heap.size w (((w.alloc (.cells #[.int .i64 B.n, .slice ao B.orders.length co, .slice al B.locked.length cl, .slice ac B.occ.length cc] 47)).alloc (.cells #[.int .i64 0, .slice none 0 0, .slice none 0 0, .slice none 0 0] 29)).alloc (.cells #[.int .i64 B.n, .slice none 0 0, .slice none 0 0, .slice none 0 0] 29)) := below3 _ _ _ _
  refine (toOrderS_any ao co _ (fun i => B.orders.getD i Ord.zero) _ hO hs (p1.below B3)).mono ?_
  rintro e w1 ⟨gs, sa, sc, rfl, hown, hb⟩
  obtain ⟨hc, hf⟩ := bcell hb
  have B4 := below_trans B3 B3.size hb
  have zz : w.heap.size + 1 + 1 + 1 ≤ w1.heap.size := by have := hb.size; simpa using this
  have z0 : w.heap.size < w1.heap.size := by omega
  have z1 : w.heap.size + 1 < w1.heap.size := by omega
  have z2 : w.heap.size + 1 + 1 < w1.heap.size := by omega
  have hown' : OwnOrds w1 (w.heap.size + 1 + 1 + 1) (some ⟨w.heap.size + 1 + 1 + 1, 0, none⟩) B.orders.length (fun i => B.orders.getD i Ord.zero) (w.heap.size + 1 + 1 + 1) gs sa sc := by simpa using hown
  have HO : Hid (OwnOrds w1 (w.heap.size + 1 + 1 + 1) (some ⟨w.heap.size + 1 + 1 + 1, 0, none⟩) B.orders.length (fun i => B.orders.getD i Ord.zero) (w.heap.size + 1 + 1 + 1) gs sa sc) := hown'
  clear hb B3 hown hown' p1
  go_wp2_with fail
  have B5 : Below w.heap.size w (w1.setCell ⟨w.heap.size + 1 + 1, 1, none⟩ (.slice (some ⟨w.heap.size + 1 + 1 + 1, 0, none⟩) B.orders.length B.orders.length)) := B4.setCell (by show w.heap.size ≤ w.heap.size + 1 + 1; omega) _
  refine (toBoolS_any al cl _ (fun i => B.locked.getD i false) _ hL (p2.below B5)).mono ?_
  rintro e w2 ⟨rfl, hrow2, hb⟩
  obtain ⟨hc2, hf2⟩ := bcell hb
  have B6 := below_trans B5 B5.size hb
  have k2 : w1.heap.size < w2.heap.size := by have := hrow2.lt; simpa using this
  have y0 : w.heap.size < w2.heap.size := by omega
  have y1 : w.heap.size + 1 < w2.heap.size := by omega
  have y2 : w.heap.size + 1 + 1 < w2.heap.size := by omega
  have hrow2' : w2.rowIs w1.heap.size 4 B.locked.length (fun i => .bool (B.locked.getD i false)) := by simpa using hrow2
  have HL : Hid (w2.rowIs w1.heap.size 4 B.locked.length (fun i => .bool (B.locked.getD i false))) := hrow2'
  have HB2 : Hid (Below w1.heap.size (w1.setCell ⟨w.heap.size + 1 + 1, 1, none⟩ (.slice (some ⟨w.heap.size + 1 + 1 + 1, 0, none⟩) B.orders.length B.orders.length)) w2) := hb.mono (by simp)
  clear hb B5 B4 hrow2 hrow2' p2
  go_wp2_with fail
  have B7 : Below w.heap.size w (w2.setCell ⟨w.heap.size + 1 + 1, 2, none⟩ (.slice (some ⟨w1.heap.size, 0, none⟩) B.locked.length B.locked.length)) := B6.setCell (by show w.heap.size ≤ w.heap.size + 1 + 1; omega) _
  refine (toBoolS_any ac cc _ (fun i => B.occ.getD i false) _ hC (p3.below B7)).mono ?_
  rintro e w3 ⟨rfl, hrow3, hb⟩
  obtain ⟨hc3, hf3⟩ := bcell hb
  have B8 := below_trans B7 B7.size hb
  have k3 : w2.heap.size < w3.heap.size := by have := hrow3.lt; simpa using this
  have x1 : w.heap.size + 1 < w3.heap.size := by omega
  have x2 : w.heap.size + 1 + 1 < w3.heap.size := by omega
  have hrow3' : w3.rowIs w2.heap.size 4 B.occ.length (fun i => .bool (B.occ.getD i false)) := by simpa using hrow3
  have HC : Hid (w3.rowIs w2.heap.size 4 B.occ.length (fun i => .bool (B.occ.getD i false))) := hrow3'
  have HB3 : Hid (Below w2.heap.size (w2.setCell ⟨w.heap.size + 1 + 1, 2, none⟩ (.slice (some ⟨w1.heap.size, 0, none⟩) B.locked.length B.locked.length)) w3) := hb.mono (by simp)
  have HB8 : Hid (Below w.heap.size w w3) := B8
  clear hb B6 B7 B8 hrow3 hrow3' p3
  have r0 : w3.cell? ⟨w.heap.size + 1, 0, none⟩ = some (.int .i64 0) := (cell_step HB3.out (by omega) (by show w.heap.size + 1 ≠ w.heap.size + 1 + 1; omega)).trans ((cell_step HB2.out (by omega) (by show w.heap.size + 1 ≠ w.heap.size + 1 + 1; omega)).trans (by simp [hc, go_sem]))
  have r1 : w3.cell? ⟨w.heap.size + 1, 1, none⟩ = some (.slice none 0 0) := (cell_step HB3.out (by omega) (by show w.heap.size + 1 ≠ w.heap.size + 1 + 1; omega)).trans ((cell_step HB2.out (by omega) (by show w.heap.size + 1 ≠ w.heap.size + 1 + 1; omega)).trans (by simp [hc, go_sem]))
  have r2 : w3.cell? ⟨w.heap.size + 1, 2, none⟩ = some (.slice none 0 0) := (cell_step HB3.out (by omega) (by show w.heap.size + 1 ≠ w.heap.size + 1 + 1; omega)).trans ((cell_step HB2.out (by omega) (by show w.heap.size + 1 ≠ w.heap.size + 1 + 1; omega)).trans (by simp [hc, go_sem]))
  have r3 : w3.cell? ⟨w.heap.size + 1, 3, none⟩ = some (.slice none 0 0) := (cell_step HB3.out (by omega) (by show w.heap.size + 1 ≠ w.heap.size + 1 + 1; omega)).trans ((cell_step HB2.out (by omega) (by show w.heap.size + 1 ≠ w.heap.size + 1 + 1; omega)).trans (by simp [hc, go_sem]))
  go_wp2
  refine bodyPost_ret (v := .agg #[.int .i64 B.n, .slice (some ⟨w.heap.size + 1 + 1 + 1, 0, none⟩) B.orders.length B.orders.length, .slice (some ⟨w1.heap.size, 0, none⟩) B.locked.length B.locked.length, .slice (some ⟨w2.heap.size, 0, none⟩) B.occ.length B.occ.length])
    (by simp [results, Tryd.results16, go_sem, r0, r1, r2, r3]) rfl ⟨_, ⟨w.heap.size + 1 + 1 + 1, gs, sa, sc, w1.heap.size, w2.heap.size⟩, rfl, ?_, ?_⟩
  · have o1 : OwnOrds w3 (w.heap.size + 1 + 1 + 1) _ _ _ _ gs sa sc := ((HO.out.storeLow (a := ⟨w.heap.size + 1 + 1, 1, none⟩) (by show w.heap.size + 1 + 1 < _; omega) _).below (HB2.out.mono (by simp))).storeLow (a := ⟨w.heap.size + 1 + 1, 2, none⟩) (by show w.heap.size + 1 + 1 < _; omega) _ |>.below (HB3.out.mono (by simp))
    have o2 : OwnBools w3 (w.heap.size + 1 + 1 + 1) (some ⟨w1.heap.size, 0, none⟩) B.locked.length (fun i => B.locked.getD i false) w1.heap.size :=
      ((show OwnBools w2 (w.heap.size + 1 + 1 + 1) (some ⟨w1.heap.size, 0, none⟩) B.locked.length (fun i => B.locked.getD i false) w1.heap.size from ⟨fun _ => rfl, fun _ => preOf HL.out, fun _ => zz⟩).storeLow (a := ⟨w.heap.size + 1 + 1, 2, none⟩) (by show w.heap.size + 1 + 1 < _; omega) _).below (HB3.out.mono (by simp))
    have o3 : OwnBools w3 (w.heap.size + 1 + 1 + 1) (some ⟨w2.heap.size, 0, none⟩) B.occ.length (fun i => B.occ.getD i false) w2.heap.size := ⟨fun _ => rfl, fun _ => preOf HC.out, fun _ => by omega⟩
    have t2 : w.heap.size + 1 + 1 < w.heap.size + 1 + 1 + 1 := by omega
    have t1 : w.heap.size + 1 < w.heap.size + 1 + 1 + 1 := by omega
    have lt := HO.out.lt
    exact ownBook_mk ((((((o1.storeLow t2 _).storeLow t1 _).storeLow t1 _).storeLow t1 _).storeLow t1 _).mono (by omega)) ((((((o2.storeLow t2 _).storeLow t1 _).storeLow t1 _).storeLow t1 _).storeLow t1 _).mono (by omega)) ((((((o3.storeLow t2 _).storeLow t1 _).storeLow t1 _).storeLow t1 _).storeLow t1 _).mono (by omega)) lt.1 (fun _ => k2) (by show w1.heap.size ≤ w2.heap.size; omega) lt.2
  · have hb := HB8.out
    exact ((((hb.setCell (by show w.heap.size ≤ w.heap.size + 1 + 1; omega) _).setCell (by show w.heap.size ≤ w.heap.size + 1; omega) _).setCell (by show w.heap.size ≤ w.heap.size + 1; omega) _).setCell (by show w.heap.size ≤ w.heap.size + 1; omega) _).setCell (by show w.heap.size ≤ w.heap.size + 1; omega) _

end Go.Proofs.YtbgmgfnhmlpehaaDoor
