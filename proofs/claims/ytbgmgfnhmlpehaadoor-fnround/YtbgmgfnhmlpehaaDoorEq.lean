/-
  The contracts of laws.eqBoolS, eqIntS, eqOrder, eqOrderS, eqBook: where the two are the same, true. Mine, by template (wip/gen.py).
-/
import Derived.Test.YtbgmgfnhmlpehaaDoorBase
import Derived.Deep.QuietTactic
import Derived.BigQuiet
import Derived.Deep.RegionHeld3
import Derived.Deep.DrawnRows
namespace Go.Proofs.YtbgmgfnhmlpehaaDoor
open Go.RowKit

set_option maxHeartbeats 400000 in
theorem eqBoolS_same (a1 a2 : Option Addr) (c1 c2 n : Nat) (V : Nat → Bool) (w : World) (hn : n ≤ 4294967296)
    (G1 : Cells w a1 n (fun i => .bool (V i))) (G2 : Cells w a2 n (fun i => .bool (V i))) :
    Calls Tryd.prog 38 #[.slice a1 n c1, .slice a2 n c2] w fun e w' => e = .returned (.bool true) ∧ Below w.heap.size w w' := by
  obtain ⟨b1, o1, h1, g1⟩ := G1
  obtain ⟨b2, o2, h2, g2⟩ := G2
  go_enter Tryd.func38, Tryd.ntmps38
  go_wp2
  go_loopw [5] (fun i wr => ∃ k : Nat, k ≤ n ∧ i = .int .i64 k ∧ Below w.heap.size w wr) (fun i _ => n - (intOf i).toNat)
  case atStart => exact ⟨0, Nat.zero_le _, rfl, Below.refl _ _⟩
  case round =>
    obtain ⟨k, hk, rfl, hb⟩ := hrel
    by_cases hlt : k < n
    · obtain rfl := h1 (by omega)
      obtain rfl := h2 (by omega)
      have e1 : wr.cell? ⟨b1, o1 + k, none⟩ = some (.bool (V k)) := (hb.cell (p := ⟨b1, o1 + k, none⟩) (World.block_lt_of_cell? _ _ (g1 k hlt))).trans (g1 k hlt)
      have e2 : wr.cell? ⟨b2, o2 + k, none⟩ = some (.bool (V k)) := (hb.cell (p := ⟨b2, o2 + k, none⟩) (World.block_lt_of_cell? _ _ (g2 k hlt))).trans (g2 k hlt)
      have hz : (0 : Int) ≤ (k : Int) := by omega
      have hlz : (k : Int) < (n : Int) := by omega
      clear g1 g2 h1 h2
      go_wp2
      go_quiet (fail)
      go_wp2
      go_roundw
      case rel => exact ⟨k + 1, by omega, by go_num, below_drewN hb _⟩
      case measure => simp [intOf]; omega
    · clear g1 g2 h1 h2
      go_wp2
      go_ret
      exact ⟨rfl, hb⟩

set_option maxHeartbeats 400000 in
theorem eqIntS_same (a1 a2 : Option Addr) (c1 c2 n : Nat) (V : Nat → Int) (w : World) (hn : n ≤ 4294967296)
    (G1 : Cells w a1 n (fun i => .int .i64 (V i))) (G2 : Cells w a2 n (fun i => .int .i64 (V i))) :
    Calls Tryd.prog 86 #[.slice a1 n c1, .slice a2 n c2] w fun e w' => e = .returned (.bool true) ∧ Below w.heap.size w w' := by
  obtain ⟨b1, o1, h1, g1⟩ := G1
  obtain ⟨b2, o2, h2, g2⟩ := G2
  go_enter Tryd.func86, Tryd.ntmps86
  go_wp2
  go_loopw [5] (fun i wr => ∃ k : Nat, k ≤ n ∧ i = .int .i64 k ∧ Below w.heap.size w wr) (fun i _ => n - (intOf i).toNat)
  case atStart => exact ⟨0, Nat.zero_le _, rfl, Below.refl _ _⟩
  case round =>
    obtain ⟨k, hk, rfl, hb⟩ := hrel
    by_cases hlt : k < n
    · obtain rfl := h1 (by omega)
      obtain rfl := h2 (by omega)
      have e1 : wr.cell? ⟨b1, o1 + k, none⟩ = some (.int .i64 (V k)) := (hb.cell (p := ⟨b1, o1 + k, none⟩) (World.block_lt_of_cell? _ _ (g1 k hlt))).trans (g1 k hlt)
      have e2 : wr.cell? ⟨b2, o2 + k, none⟩ = some (.int .i64 (V k)) := (hb.cell (p := ⟨b2, o2 + k, none⟩) (World.block_lt_of_cell? _ _ (g2 k hlt))).trans (g2 k hlt)
      have hz : (0 : Int) ≤ (k : Int) := by omega
      have hlz : (k : Int) < (n : Int) := by omega
      clear g1 g2 h1 h2
      go_wp2
      go_quiet (fail)
      go_wp2
      go_roundw
      case rel => exact ⟨k + 1, by omega, by go_num, below_drewN hb _⟩
      case measure => simp [intOf]; omega
    · clear g1 g2 h1 h2
      go_wp2
      go_ret
      exact ⟨rfl, hb⟩

set_option maxHeartbeats 400000 in
theorem eqOrder_same (s : ByteArray) (k t : Int) (a1 a2 : Option Addr) (c1 c2 n : Nat) (V : Nat → Int) (w : World) (hn : n ≤ 4294967296)
    (G1 : Cells w a1 n (fun i => .int .i64 (V i))) (G2 : Cells w a2 n (fun i => .int .i64 (V i))) :
    Calls Tryd.prog 63 #[.agg #[.string s, .int .i64 k, .slice a1 n c1, .int .i64 t], .agg #[.string s, .int .i64 k, .slice a2 n c2, .int .i64 t]] w fun e w' => e = .returned (.bool true) ∧ Below w.heap.size w w' := by
  go_enter Tryd.func63, Tryd.ntmps63
  go_wp2_with fail
  have B2 := below2 w (.cells #[.string s, .int .i64 k, .slice a1 n c1, .int .i64 t] 39) (.cells #[.string s, .int .i64 k, .slice a2 n c2, .int .i64 t] 39)
  refine (eqIntS_same a1 a2 c1 c2 n V _ hn (G1.below B2) (G2.below B2)).mono ?_
  rintro e w1 ⟨rfl, hb⟩
  obtain ⟨hc, hf⟩ := bcell hb
  have B3 := below_trans B2 (by simp; omega) hb
  clear hf hb B2 G1 G2
  go_wp2
  go_ret
  exact ⟨rfl, B3⟩

set_option maxHeartbeats 400000 in
theorem eqOrderS_same (a1 a2 : Option Addr) (c1 c2 : Nat) (xs : List Ord) (w : World) (hn : xs.length ≤ 1048576) (hsec : ∀ i, i < xs.length → (xs.getD i Ord.zero).secs.length ≤ 4294967296)
    (G1 : OrdersAt w a1 xs) (G2 : OrdersAt w a2 xs) :
    Calls Tryd.prog 37 #[.slice a1 xs.length c1, .slice a2 xs.length c2] w fun e w' => e = .returned (.bool true) ∧ Below w.heap.size w w' := by
  obtain ⟨n, hln⟩ : ∃ n, n = xs.length := ⟨_, rfl⟩
  obtain ⟨X, hX⟩ : ∃ X : Nat → Ord, X = fun i => xs.getD i Ord.zero := ⟨_, rfl⟩
  have K1 : ∃ b o, (0 < n → a1 = some ⟨b, o, none⟩) ∧ ∀ i, i < n → ∃ sa sc, OrdAt w b (o + i * 4) (X i) sa sc := by rw [hln, hX]; exact G1
  have K2 : ∃ b o, (0 < n → a2 = some ⟨b, o, none⟩) ∧ ∀ i, i < n → ∃ sa sc, OrdAt w b (o + i * 4) (X i) sa sc := by rw [hln, hX]; exact G2
  have hs : ∀ i, i < n → (X i).secs.length ≤ 4294967296 := by rw [hln, hX]; exact hsec
  rw [← hln] at hn ⊢
  clear G1 G2 hsec hX hln
  obtain ⟨b1, o1, h1, g1⟩ := K1
  obtain ⟨b2, o2, h2, g2⟩ := K2
  go_enter Tryd.func37, Tryd.ntmps37
  go_wp2
  go_loopw [5] (fun i wr => ∃ k : Nat, k ≤ n ∧ i = .int .i64 k ∧ Below w.heap.size w wr) (fun i _ => n - (intOf i).toNat)
  case atStart => exact ⟨0, Nat.zero_le _, rfl, Below.refl _ _⟩
  case round =>
    obtain ⟨k, hk, rfl, hb⟩ := hrel
    by_cases hlt : k < n
    · obtain rfl := h1 (by omega)
      obtain rfl := h2 (by omega)
      obtain ⟨sa1, sc1, q1⟩ := g1 k hlt
      obtain ⟨sa2, sc2, q2⟩ := g2 k hlt
      have hsk := hs k hlt
      clear g1 g2 h1 h2 hs
      have r1 := q1.below hb
      have r2 := q2.below hb
      clear q1 q2
      have l1 : b1 < wr.heap.size := World.block_lt_of_cell? _ _ r1.c0
      have l2 : b2 < wr.heap.size := World.block_lt_of_cell? _ _ r2.c0
      obtain ⟨x0, x1, x2, x3, x4⟩ := r1
      obtain ⟨y0, y1, y2, y3, y4⟩ := r2
      have hz : (0 : Int) ≤ (k : Int) := by omega
      have hlz : (k : Int) < (n : Int) := by omega
      go_wp2
      go_region_held3 (fun w' => w'.cell? ⟨b1, o1 + k * 4, none⟩ = some (.string (X k).holder) ∧ w'.cell? ⟨b1, o1 + k * 4 + 1, none⟩ = some (.int .i64 (X k).kind) ∧ w'.cell? ⟨b1, o1 + k * 4 + 2, none⟩ = some (.slice sa1 (X k).secs.length sc1) ∧ w'.cell? ⟨b1, o1 + k * 4 + 3, none⟩ = some (.int .i64 (X k).state) ∧ w'.cell? ⟨b2, o2 + k * 4, none⟩ = some (.string (X k).holder) ∧ w'.cell? ⟨b2, o2 + k * 4 + 1, none⟩ = some (.int .i64 (X k).kind) ∧ w'.cell? ⟨b2, o2 + k * 4 + 2, none⟩ = some (.slice sa2 (X k).secs.length sc2) ∧ w'.cell? ⟨b2, o2 + k * 4 + 3, none⟩ = some (.int .i64 (X k).state)) (first | go_keep | skip)
        (first | (go_at_call 63; refine (eqOrder_same _ _ _ sa1 sa2 sc1 sc2 _ (fun i => (X k).secs.getD i 0) _ hsk (x4.below ((Below.refl _ _).drew)) (y4.below ((Below.refl _ _).drew))).mono ?_; rintro e w1 ⟨rfl, hb1⟩; have hb2 : Below w.heap.size w w1 := below_trans hb hb.size (show Below wr.heap.size wr w1 from (Below.refl _ _).drew.trans hb1); obtain ⟨hc1, hf1⟩ := bcell (show Below wr.heap.size wr w1 from (Below.refl _ _).drew.trans hb1); clear hf1))
      go_wp2
      go_roundw
      case rel => exact ⟨k + 1, by omega, by go_num, hb2⟩
      case measure => simp [intOf]; omega
    · clear g1 g2 h1 h2
      go_wp2
      go_ret
      exact ⟨rfl, hb⟩

set_option maxHeartbeats 400000 in
theorem eqBook_same (v1 v2 : Value) (B : Bk) (w : World) (ho : B.orders.length ≤ 1048576) (hsec : ∀ i, i < B.orders.length → (B.orders.getD i Ord.zero).secs.length ≤ 4294967296)
    (hl : B.locked.length ≤ 4294967296) (hc : B.occ.length ≤ 4294967296) (G1 : BookAt w v1 B) (G2 : BookAt w v2 B) :
    Calls Tryd.prog 17 #[v1, v2] w fun e w' => e = .returned (.bool true) ∧ Below w.heap.size w w' := by
  obtain ⟨ao1, co1, al1, cl1, ac1, cc1, rfl, p1, p2, p3⟩ := G1
  obtain ⟨ao2, co2, al2, cl2, ac2, cc2, rfl, q1, q2, q3⟩ := G2
  go_enter Tryd.func17, Tryd.ntmps17
  go_wp2_with fail
  have B2 := below2 w (.cells #[.int .i64 B.n, .slice ao1 B.orders.length co1, .slice al1 B.locked.length cl1, .slice ac1 B.occ.length cc1] 29) (.cells #[.int .i64 B.n, .slice ao2 B.orders.length co2, .slice al2 B.locked.length cl2, .slice ac2 B.occ.length cc2] 29)
  refine (eqOrderS_same ao1 ao2 co1 co2 B.orders _ ho hsec (p1.below B2) (q1.below B2)).mono ?_
  rintro e w1 ⟨rfl, hb⟩
  obtain ⟨hc1, hf⟩ := bcell hb
  have B3 := below_trans B2 (by simp; omega) hb
  have z1 : w.heap.size + 1 < w1.heap.size := by have := hb.size; simp at this; omega
  clear hf hb B2
  go_wp2_with fail
  refine (eqBoolS_same al1 al2 cl1 cl2 _ (fun i => B.locked.getD i false) _ hl (p2.below B3) (q2.below B3)).mono ?_
  rintro e w2 ⟨rfl, hb⟩
  have hc2 : ∀ o, w2.cell? ⟨w.heap.size, o, none⟩ = w1.cell? ⟨w.heap.size, o, none⟩ := fun o => hb.cell (p := ⟨w.heap.size, o, none⟩) (by show w.heap.size < _; omega)
  have hc2' : ∀ o, w2.cell? ⟨w.heap.size + 1, o, none⟩ = w1.cell? ⟨w.heap.size + 1, o, none⟩ := fun o => hb.cell (p := ⟨w.heap.size + 1, o, none⟩) z1
  have B4 := below_trans B3 B3.size hb
  clear hb B3
  go_wp2_with fail
  refine (eqBoolS_same ac1 ac2 cc1 cc2 _ (fun i => B.occ.getD i false) _ hc (p3.below B4) (q3.below B4)).mono ?_
  rintro e w3 ⟨rfl, hb⟩
  have B5 := below_trans B4 B4.size hb
  clear hb B4
  go_wp2
  go_ret
  exact ⟨rfl, B5⟩

end Go.Proofs.YtbgmgfnhmlpehaaDoor
