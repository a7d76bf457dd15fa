/-
  The contracts of laws.heldIntS, heldBoolS, heldOrderS, heldBook: where the marks stand, they are found. Mine, by template (wip/gen.py).
-/
import Derived.Test.YtbgmgfnhmlpehabGreatDoorMark2
import Derived.Deep.QuietTactic
import Derived.BigQuiet
import Derived.Deep.RegionHeld3
import Derived.Deep.DrawnRows
namespace Go.Proofs.YtbgmgfnhmlpehabGreatDoor
open Go.RowKit

set_option maxHeartbeats 400000 in
theorem heldIntS_any (ad : Option Addr) (c n : Nat) (k : Int) (w : World) (h0 : 0 ≤ k) (h1 : k + n ≤ 4611686018427387904) (G : Cells w ad n (fun i => .int .i64 (k + i))) :
    Calls Tryz.prog 80 #[.slice ad n c, .int .i64 k] w fun e w' => e = .returned (.int .i64 (k + n)) ∧ Below w.heap.size w w' := by
  obtain ⟨b, o, hd, g⟩ := G
  go_enter Tryz.func80, Tryz.ntmps80
  go_wp2
  go_loop [1, 5] (fun q i => ∃ j : Nat, j ≤ n ∧ i = .int .i64 j ∧ q = .int .i64 (k + j)) (fun _ i => n - (intOf i).toNat)
  case atStart => exact ⟨0, Nat.zero_le _, rfl, by simp⟩
  case round =>
    obtain ⟨j, hj, rfl, rfl⟩ := hrel
    by_cases hlt : j < n
    · obtain rfl := hd (by omega)
      have e1 := g j hlt
      clear g hd
      go_wp2
      go_round
      case rel => exact ⟨j + 1, by omega, by go_num, by go_num⟩
      case measure => simp [intOf]; omega
    · obtain rfl : j = n := by omega
      clear g hd
      go_wp2
      go_ret
      exact ⟨rfl, Below.refl _ _⟩

set_option maxHeartbeats 400000 in
theorem heldBoolS_any (ad : Option Addr) (c n : Nat) (k : Int) (w : World) (h0 : 0 ≤ k) (h1 : k + n ≤ 4611686018427387904) (G : Cells w ad n (fun i => .bool (mb (k + i)))) :
    Calls Tryz.prog 57 #[.slice ad n c, .int .i64 k] w fun e w' => e = .returned (.int .i64 (k + n)) ∧ Below w.heap.size w w' := by
  obtain ⟨b, o, hd, g⟩ := G
  go_enter Tryz.func57, Tryz.ntmps57
  go_wp2
  go_loop [1, 5] (fun q i => ∃ j : Nat, j ≤ n ∧ i = .int .i64 j ∧ q = .int .i64 (k + j)) (fun _ i => n - (intOf i).toNat)
  case atStart => exact ⟨0, Nat.zero_le _, rfl, by simp⟩
  case round =>
    obtain ⟨j, hj, rfl, rfl⟩ := hrel
    by_cases hlt : j < n
    · obtain rfl := hd (by omega)
      have e1 : w.cell? ⟨b, o + j, none⟩ = some (.bool ((k + (j : Int)) % 3 == 0)) := g j hlt
      clear g hd
      go_wp2
      go_round
      case rel => exact ⟨j + 1, by omega, by go_num, by go_num⟩
      case measure => simp [intOf]; omega
    · obtain rfl : j = n := by omega
      clear g hd
      go_wp2
      go_ret
      exact ⟨rfl, Below.refl _ _⟩

set_option maxHeartbeats 1000000 in
theorem heldOrderS_any (ad : Option Addr) (c n : Nat) (X : Nat → Ord) (k : Nat) (w : World) (h0 : 0 < k) (hk : kAt X k n ≤ 2305843009213693952) (hn : n ≤ 1048576)
    (G : ∃ b o, (0 < n → ad = some ⟨b, o, none⟩) ∧ ∀ i, i < n → ∃ sa sc, OrdAt w b (o + i * 4) (mOrd (kAt X k i) (X i)) sa sc) :
    Calls Tryz.prog 56 #[.slice ad n c, .int .i64 k] w fun e w' => e = .returned (.int .i64 (kAt X k n)) ∧ Below w.heap.size w w' := by
  obtain ⟨b, o, hd, g⟩ := G
  go_enter Tryz.func56, Tryz.ntmps56
  go_wp2
  go_loopw [1, 5] (fun q i wr => ∃ j : Nat, j ≤ n ∧ i = .int .i64 j ∧ q = .int .i64 (kAt X k j) ∧ Below w.heap.size w wr) (fun _ i _ => n - (intOf i).toNat)
  case atStart => exact ⟨0, Nat.zero_le _, rfl, rfl, Below.refl _ _⟩
  case round =>
    obtain ⟨j, hj, rfl, rfl, hb⟩ := hrel
    by_cases hlt : j < n
    · obtain rfl := hd (by omega)
      obtain ⟨kj, hkj⟩ : ∃ kj, kj = kAt X k j := ⟨_, rfl⟩
      have hkn : kj + 3 + (X j).secs.length ≤ 2305843009213693952 := by
        have := kAt_mono X k (i := j + 1) (j := n) (by omega)
        simp only [kAt] at this
        omega
      have hk0 : 0 < kj := by
        have := kAt_mono X k (i := 0) (j := j) (by omega)
        simp only [kAt] at this
        omega
      obtain ⟨sa, sc, q⟩ := g j hlt
      have q' := q.below hb
      have hl : b < wr.heap.size := World.block_lt_of_cell? _ _ q'.c0
      rw [← hkj] at q' ⊢
      have HK : Hid (kj = kAt X k j) := hkj
      obtain ⟨L, hL⟩ : ∃ L, L = (X j).secs.length := ⟨_, rfl⟩
      have x0 : wr.cell? ⟨b, o + j * 4, none⟩ = some (.string ⟨(109 :: decF kj kj []).toArray⟩) := q'.c0
      have x1 : wr.cell? ⟨b, o + j * 4 + 1, none⟩ = some (.int .i64 ((kj : Int) + 1)) := q'.c1
      have x2 : wr.cell? ⟨b, o + j * 4 + 2, none⟩ = some (.slice sa L sc) := by have := q'.c2; rw [mOrd_len, ← hL] at this; exact this
      have x3 : wr.cell? ⟨b, o + j * 4 + 3, none⟩ = some (.int .i64 ((kj : Int) + 1 + 1 + L)) := by
        have := q'.c3
        rw [this]
        simp only [mOrd, ← hL]
        congr 2
      have x4 : Cells wr sa L (fun i => .int .i64 ((kj : Int) + 1 + 1 + i)) := by
        obtain ⟨b', o', u1, u2⟩ := q'.secs
        rw [mOrd_len, ← hL] at u1 u2
        refine ⟨b', o', u1, fun i hi => ?_⟩
        rw [u2 i hi, mOrd_sec _ _ _ (by omega)]
        congr 2
      rw [← hL] at hkn
      have HL : Hid (L = (X j).secs.length) := hL
      have hz : (0 : Int) ≤ (j : Int) := by omega
      have hlz : (j : Int) < (n : Int) := by omega
      clear g hd q q' hk hkj hL
      go_wp2
      go_region_held3 (fun w' => w'.cell? ⟨b, o + j * 4, none⟩ = some (.string ⟨(109 :: decF kj kj []).toArray⟩)) (go_keep)
        (first | (go_at_call 55; refine (markText_any kj _ hk0 (by omega)).mono ?_; rintro e w1 ⟨rfl, hb1⟩; have hbr : Below wr.heap.size wr w1 := (Below.refl _ _).drew.trans hb1; obtain ⟨hc1, hf1⟩ := bcell hbr; clear hf1 hb1))
      have y4 := x4.below hbr
      have hbw : Below w.heap.size w w1 := below_trans hb hb.size hbr
      have hl1 : b < w1.heap.size := Nat.lt_of_lt_of_le hl hbr.size
      have y1 : w1.cell? ⟨b, o + j * 4 + 1, none⟩ = some (.int .i64 ((kj : Int) + 1)) := (hc1 _ _ hl).trans x1
      have y2 : w1.cell? ⟨b, o + j * 4 + 2, none⟩ = some (.slice sa L sc) := (hc1 _ _ hl).trans x2
      have y3 : w1.cell? ⟨b, o + j * 4 + 3, none⟩ = some (.int .i64 ((kj : Int) + 1 + 1 + L)) := (hc1 _ _ hl).trans x3
      clear hc1 hbr hb x0 x1 x2 x3 x4
      go_wp2_with fail
      refine (heldIntS_any sa sc L ((kj : Int) + 1 + 1) _ (by omega) (by omega) y4).mono ?_
      rintro e w2 ⟨rfl, hb2⟩
      have z3 : w2.cell? ⟨b, o + j * 4 + 3, none⟩ = some (.int .i64 ((kj : Int) + 1 + 1 + L)) := (hb2.cell (p := ⟨b, o + j * 4 + 3, none⟩) hl1).trans y3
      have hbw2 := below_trans hbw hbw.size hb2
      clear hb2 hbw y1 y2 y3 y4
      go_wp2
      go_roundw
      case rel =>
        refine ⟨j + 1, by omega, by go_num, ?_, hbw2⟩
        show Value.int _ _ = Value.int _ _
        have e1 := HK.out
        have e2 := HL.out
        rw [show kAt X k (j + 1) = kAt X k j + 3 + (X j).secs.length from rfl, ← e1, ← e2]
        congr 1; omega
      case measure => simp [intOf]; omega
    · obtain rfl : j = n := by omega
      clear g hd hk
      go_wp2
      go_ret
      exact ⟨rfl, hb⟩

set_option maxHeartbeats 1000000 in
theorem heldBook_any (v : Value) (B : Bk) (k : Nat) (w : World) (h0 : 0 < k) (hk : bEnd B k ≤ 2305843009213693952) (hn : B.orders.length ≤ 1048576) (h : BookAt w v (mBk B k)) :
    Calls Tryz.prog 49 #[v, .int .i64 k] w fun e w' => e = .returned (.int .i64 (bEnd B k)) ∧ Below w.heap.size w w' := by
  obtain ⟨ao, co, al, cl, ac, cc, rfl, p1, p2, p3⟩ := h
  have len1 : (mBk B k).orders.length = B.orders.length := by simp [mBk]
  have len2 : (mBk B k).locked.length = B.locked.length := by simp [mBk]
  have len3 : (mBk B k).occ.length = B.occ.length := by simp [mBk]
  obtain ⟨k1, hk1⟩ : ∃ k1, k1 = bK B k := ⟨_, rfl⟩
  have hkb : k1 + B.locked.length + B.occ.length ≤ 2305843009213693952 := by rw [hk1]; exact hk
  have HK : Hid (k1 = bK B k) := hk1
  have hkk : kAt (bX B) k B.orders.length ≤ 2305843009213693952 := by
    have e : k1 = kAt (bX B) k B.orders.length := hk1
    rw [← e]; omega
  have r1 : ∃ b o, (0 < B.orders.length → ao = some ⟨b, o, none⟩) ∧ ∀ i, i < B.orders.length → ∃ sa sc, OrdAt w b (o + i * 4) (mOrd (kAt (bX B) k i) (bX B i)) sa sc := by
    obtain ⟨b, o, u1, u2⟩ := p1
    rw [len1] at u1 u2
    refine ⟨b, o, u1, fun i hi => ?_⟩
    have := u2 i hi
    rw [show (mBk B k).orders.getD i Ord.zero = mX (bX B) k B.orders.length i from getD_range_map _ _ _ _ hi, show mX (bX B) k B.orders.length i = mOrd (kAt (bX B) k i) (bX B i) from if_pos hi] at this
    exact this
  have r2 : Cells w al B.locked.length (fun (i : Nat) => .bool (mb ((k1 : Int) + (i : Int)))) := by
    obtain ⟨b, o, u1, u2⟩ := p2
    rw [len2] at u1 u2
    refine ⟨b, o, u1, fun i hi => ?_⟩
    rw [u2 i hi, hk1]
    unfold bV
    rw [show (mBk B k).locked.getD i false = mb ((bK B k : Int) + i) from getD_range_map _ _ _ _ hi]
  have r3 : Cells w ac B.occ.length (fun (i : Nat) => .bool (mb ((k1 : Int) + (B.locked.length : Int) + (i : Int)))) := by
    obtain ⟨b, o, u1, u2⟩ := p3
    rw [len3] at u1 u2
    refine ⟨b, o, u1, fun i hi => ?_⟩
    rw [u2 i hi, hk1]
    unfold bV
    rw [show (mBk B k).occ.getD i false = mb (((bK B k + B.locked.length : Nat) : Int) + i) from getD_range_map _ _ _ _ hi]
    congr 2
  have hnn : (mBk B k).n = B.n := rfl
  rw [len1, len2, len3, hnn]
  clear len1 len2 len3 p1 p2 p3 hk1 hk hnn
  go_enter Tryz.func49, Tryz.ntmps49
  go_wp2_with fail
  have B1 := below1 w (.cells #[.int .i64 B.n, .slice ao B.orders.length co, .slice al B.locked.length cl, .slice ac B.occ.length cc] 33)
  have r1' : ∃ b o, (0 < B.orders.length → ao = some ⟨b, o, none⟩) ∧ ∀ i, i < B.orders.length → ∃ sa sc, OrdAt (w.alloc (.cells #[.int .i64 B.n, .slice ao B.orders.length co, .slice al B.locked.length cl, .slice ac B.occ.length cc] 33)) b (o + i * 4) (mOrd (kAt (bX B) k i) (bX B i)) sa sc := by
    obtain ⟨b, o, u1, u2⟩ := r1
    exact ⟨b, o, u1, fun i hi => by obtain ⟨sa, sc, u3⟩ := u2 i hi; exact ⟨sa, sc, u3.below B1⟩⟩
  refine (heldOrderS_any ao co B.orders.length (bX B) k _ h0 hkk hn r1').mono ?_
  rintro e w1 ⟨rfl, hb⟩
  rw [show kAt (bX B) k B.orders.length = k1 from HK.out.symm]
  obtain ⟨hc, hf⟩ := bcell hb
  have B2 := below_trans B1 B1.size hb
  have z1 : w.heap.size < w1.heap.size := by have := hb.size; simp at this; omega
  clear hb B1 hf r1 r1'
  go_wp2_with fail
  refine (heldBoolS_any al cl B.locked.length k1 _ (by omega) (by omega) (r2.below B2)).mono ?_
  rintro e w2 ⟨rfl, hb⟩
  have hc2 : ∀ o, w2.cell? ⟨w.heap.size, o, none⟩ = w1.cell? ⟨w.heap.size, o, none⟩ := fun o => hb.cell (p := ⟨w.heap.size, o, none⟩) z1
  have B3 := below_trans B2 B2.size hb
  clear hb B2 r2
  go_wp2_with fail
  refine (heldBoolS_any ac cc B.occ.length (k1 + B.locked.length) _ (by omega) (by omega) (r3.below B3)).mono ?_
  rintro e w3 ⟨rfl, hb⟩
  have B4 := below_trans B3 B3.size hb
  clear hb B3 r3
  go_wp2
  go_ret
  refine ⟨?_, B4⟩
  show Ending.returned (Value.int _ _) = Ending.returned (Value.int _ _)
  rw [show bEnd B k = k1 + B.locked.length + B.occ.length from by rw [HK.out]; rfl]
  congr 2

end Go.Proofs.YtbgmgfnhmlpehabGreatDoor
