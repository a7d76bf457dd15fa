import Derived.Test.YtdlaekjofgbjcaaGreatDoorCurZ
import Derived.Test.YtdlaekjofgbjcaaGreatDoorBaseZ
import Derived.Test.YtdlaekjofgbjcaaGreatDoorSCopy
import Derived.Test.YtdlaekjofgbjcaaGreatDoorOwnUpZ
import Derived.Test.YtdlaekjofgbjcaaGreatDoorOpenL
/-
 The cursor that draws, told exactly: (*spec.l4Cur).next. Mine, by template (wip/gen.py).
-/
namespace Go.Proofs.YtdlaekjofgbjcaaGreatDoor
open Go.RowKit
def seedF (n : Nat) (V : Nat → UInt8) : Nat → Int
 | 0 => 0
 | t + 1 => if t < n then IntKind.u64.wrap (IntKind.u64.wrap (IntKind.u64.wrap (seedF n V t * 6364136223846793005) + ((V t).toNat : Int)) + 1442695040888963407) else IntKind.u64.wrap (IntKind.u64.wrap (seedF n V t * 6364136223846793005) + 1442695040888963407)
def nextF (n : Nat) (V : Nat → UInt8) (t : Nat) : Nat := if t < n then (V t).toNat else (wrap64 (bits .and .u64 (seedF n V (t + 1) / 1099511627776) 255)).toNat
structure Cur (w : World) (p : Nat) (ad : Option Addr) (n c : Nat) (V : Nat → UInt8) (t : Nat) : Prop where
 box : w.heap[p]? = some (.cells #[.slice ad n c, .int .i64 (t : Int), .int .u64 (seedF n V t)] 54 (0, 0))
 byt : ∃ b o, (0 < n → ad = some ⟨b, o, none⟩) ∧ b ≠ p ∧ ∀ i, i < n → w.cell? ⟨b, o + i, none⟩ = some (.int .u8 ((V i).toNat : Int))
theorem cells3 {w : World} {p : Nat} {a b c : Value} {t : TypeId} (h : w.heap[p]? = some (.cells #[a, b, c] t (0, 0))) :
  w.cell? ⟨p, 0, none⟩ = some a ∧ w.cell? ⟨p, 1, none⟩ = some b ∧ w.cell? ⟨p, 2, none⟩ = some c := by
 simp [World.cell?, h]
theorem and255 (x : Int) : ∃ r : Nat, wrap64 (bits .and .u64 x 255) = (r : Int) ∧ r ≤ 255 := by
 have h : ((BitVec.ofInt 64 x) &&& (BitVec.ofInt 64 255)).toNat ≤ 255 := by
  rw [BitVec.toNat_and]; exact Nat.le_trans Nat.and_le_right (by decide)
 refine ⟨((BitVec.ofInt 64 x) &&& (BitVec.ofInt 64 255)).toNat, ?_, h⟩; have e : bits .and .u64 x 255 = IntKind.u64.wrap ((((BitVec.ofInt 64 x) &&& (BitVec.ofInt 64 255)).toNat : Nat) : Int) := rfl; rw [e]; generalize ((BitVec.ofInt 64 x) &&& (BitVec.ofInt 64 255)).toNat = r at h; unfold wrap64; simp [IntKind.wrap, IntKind.signed, IntKind.bits]; omega
theorem nextF_le (n : Nat) (V : Nat → UInt8) (t : Nat) : nextF n V t ≤ 255 := by
 unfold nextF; split
 ·
  have := (V t).toNat_lt; omega
 ·
  obtain ⟨r, hr, h2⟩ := and255 (seedF n V (t + 1) / 1099511627776); rw [hr]; omega
theorem fr1 {a w : World} {P i : Nat} {u : Value} (h : Fr (fun x => x = P) a w) : Fr (fun x => x = P) a (w.setCell ⟨P, i, none⟩ u) := h.setCell (p := ⟨P, i, none⟩) rfl _
theorem Fr.drew' {S : Nat → Prop} {a w : World} (h : Fr S a w) : Fr S a w.drew := h.trans (Fr.of_below (Below.refl _ _).drew)
theorem cell_other {w : World} {b p o i : Nat} {u : Value} (h : b ≠ p) : (w.setCell ⟨p, i, none⟩ u).cell? ⟨b, o, none⟩ = w.cell? ⟨b, o, none⟩ := World.cell?_of_block (Deep.blk_setCell_other _ _ _ _ h)
set_option maxHeartbeats 2000000 in
theorem next_any (p : Nat) (ad : Option Addr) (n c : Nat) (V : Nat → UInt8) (t : Nat) (w : World) (ht : t ≤ 1000000000) (hn : n ≤ 1048576) (h : Cur w p ad n c V t) :
  Calls Tryz.prog 80 #[.pointer (some ⟨p, 0, none⟩)] w fun e w' => e = .returned (.int .i64 (nextF n V t : Int)) ∧ Cur w' p ad n c V (t + 1) ∧ Fr (fun x => x = p) w w' := by
 obtain ⟨hb, b, o, hd, hne, g⟩ := h; have sT : t < n → seedF n V (t + 1) = IntKind.u64.wrap (IntKind.u64.wrap (IntKind.u64.wrap (seedF n V t * 6364136223846793005) + ((V t).toNat : Int)) + 1442695040888963407) := fun h => by simp only [seedF]; rw [if_pos h]
 have sN : ¬ t < n → seedF n V (t + 1) = IntKind.u64.wrap (IntKind.u64.wrap (seedF n V t * 6364136223846793005) + 1442695040888963407) := fun h => by simp only [seedF]; rw [if_neg h]
 have HS : Hid ((t < n → seedF n V (t + 1) = IntKind.u64.wrap (IntKind.u64.wrap (IntKind.u64.wrap (seedF n V t * 6364136223846793005) + ((V t).toNat : Int)) + 1442695040888963407)) ∧ (¬ t < n → seedF n V (t + 1) = IntKind.u64.wrap (IntKind.u64.wrap (seedF n V t * 6364136223846793005) + 1442695040888963407))) := ⟨sT, sN⟩; clear sT sN; obtain ⟨s, hs⟩ : ∃ s, s = seedF n V t := ⟨_, rfl⟩; rw [← hs] at hb HS; clear hs; obtain ⟨c0, c1, c2⟩ := cells3 hb; have f1 : w.frozen? ⟨p, 1, none⟩ = false := frozen_of_box hb; have f2 : w.frozen? ⟨p, 2, none⟩ = false := frozen_of_box hb; have HB : Hid (w.heap[p]? = some (.cells #[.slice ad n c, .int .i64 (t : Int), .int .u64 s] 54 (0, 0))) := hb; clear hb
 by_cases hlt : t < n
 ·
  obtain rfl := hd (by omega); have x := g t hlt; have HG : Hid (∀ i, i < n → w.cell? ⟨b, o + i, none⟩ = some (.int .u8 ((V i).toNat : Int))) := g; have vb : (V t).toNat ≤ 255 := by have := (V t).toNat_lt; omega
  clear g hd
  go_enter Tryz.func80, Tryz.ntmps80
  go_wp2; go_region; go_wp2; go_region; go_wp2; go_ret; exact ⟨by rw [nextF, if_pos hlt]; rfl, ⟨by rw [HS.out.1 hlt]; exact (box_set (box_set HB.out _) _).trans rfl, b, o, fun _ => rfl, hne, fun i hi => (cell_other hne).trans ((cell_other hne).trans (HG.out i hi))⟩, (fr1 (fr1 (Fr.refl _ _))).drew'.drew'⟩
 ·
  have HG : Hid ((0 < n → ad = some ⟨b, o, none⟩) ∧ ∀ i, i < n → w.cell? ⟨b, o + i, none⟩ = some (.int .u8 ((V i).toNat : Int))) := ⟨hd, g⟩; clear g hd
  go_enter Tryz.func80, Tryz.ntmps80
  go_wp2; go_region; go_wp2; go_ret; obtain ⟨r, hr, hr2⟩ := and255 (IntKind.u64.wrap (IntKind.u64.wrap (s * 6364136223846793005) + 1442695040888963407) / 1099511627776); exact ⟨by rw [nextF, if_neg hlt, HS.out.2 hlt, hr]; rfl, ⟨by rw [HS.out.2 hlt]; exact (box_set (box_set HB.out _) _).trans rfl, b, o, HG.out.1, hne, fun i hi => (cell_other hne).trans ((cell_other hne).trans (HG.out.2 i hi))⟩, (fr1 (fr1 (Fr.refl _ _))).drew'⟩
end Go.Proofs.YtdlaekjofgbjcaaGreatDoor
/-
 The cursor's pick, list, holder. Mine, by template (wip/gen.py).
-/
namespace Go.Proofs.YtdlaekjofgbjcaaGreatDoor
open Go.RowKit
theorem Cur.lt {w : World} {p : Nat} {ad : Option Addr} {n c : Nat} {V : Nat → UInt8} {t : Nat} (h : Cur w p ad n c V t) : p < w.heap.size := by
 obtain ⟨hb, _⟩ := h; exact (Array.getElem?_eq_some_iff.1 hb).1
theorem Cur.below {w w' : World} {p : Nat} {ad : Option Addr} {n c : Nat} {V : Nat → UInt8} {t : Nat} (h : Cur w p ad n c V t) (hb : Below w.heap.size w w') : Cur w' p ad n c V t := by
 have hp := h.lt; obtain ⟨hx, b, o, h1, h2, h3⟩ := h; exact ⟨(hb.block _ hp).trans hx, b, o, h1, h2, fun i hi => (hb.cell (p := ⟨b, o + i, none⟩) (World.block_lt_of_cell? _ _ (h3 i hi))).trans (h3 i hi)⟩
def pickF (n : Nat) (V : Nat → UInt8) (t : Nat) (m : Int) : Nat := if m ≤ 1 then 0 else if 200 < m then (nextF n V t * 256 + nextF n V (t + 1)) % m.toNat else nextF n V t % m.toNat
def pickT (t : Nat) (m : Int) : Nat := if m ≤ 1 then t else if 200 < m then t + 2 else t + 1
def RetP (e : Ending) (m : Int) (n : Nat) (V : Nat → UInt8) (t : Nat) : Prop := ∃ r : Nat, e = .returned (.int .i64 (r : Int)) ∧ (m ≤ 1 → r = 0) ∧ (1 < m → (r : Int) < m) ∧ Hid (r = pickF n V t m)
def CurTo (w' : World) (p : Nat) (ad : Option Addr) (n c : Nat) (V : Nat → UInt8) (t d T : Nat) : Prop := ∃ t', t' ≤ t + d ∧ Cur w' p ad n c V t' ∧ Hid (t' = T)
theorem CurTo.mono {w' : World} {p : Nat} {ad : Option Addr} {n c : Nat} {V : Nat → UInt8} {t d u e T : Nat} (h : CurTo w' p ad n c V t d T) (hl : t + d ≤ u + e) : CurTo w' p ad n c V u e T := by
 obtain ⟨t', h1, h2⟩ := h; exact ⟨t', by omega, h2⟩
set_option maxHeartbeats 2000000 in
theorem pick_any (p : Nat) (ad : Option Addr) (n c : Nat) (V : Nat → UInt8) (t : Nat) (m : Int) (w : World) (ht : t ≤ 900000000) (hn : n ≤ 1048576) (hm : m ≤ 65536) (h : Cur w p ad n c V t) :
  Calls Tryz.prog 53 #[.pointer (some ⟨p, 0, none⟩), .int .i64 m] w fun e w' => RetP e m n V t ∧ CurTo w' p ad n c V t 2 (pickT t m) ∧ Fr (fun x => x = p) w w' := by
 have HC : Hid (Cur w p ad n c V t) := h; clear h
 by_cases h1 : m ≤ 1
 ·
  have t1 : decide (m ≤ 1) = true := by simpa using h1
  go_enter Tryz.func53, Tryz.ntmps53
  go_wp2; go_ret; exact ⟨⟨0, rfl, fun _ => rfl, fun q => by omega, (by rw [pickF, if_pos h1] : (0 : Nat) = pickF n V t m)⟩, ⟨t, by omega, HC.out, (by rw [pickT, if_pos h1] : t = pickT t m)⟩, Fr.refl _ _⟩
 have t1 : decide (m ≤ 1) = false := by simpa using h1
 obtain ⟨M, rfl⟩ := Int.eq_ofNat_of_zero_le (show 0 ≤ m by omega); have nz : ¬ (M : Int) = 0 := by omega
 go_enter Tryz.func53, Tryz.ntmps53
 go_wp2_with fail
 refine (next_any p ad n c V t w (by omega) hn HC.out).mono ?_; rintro e w1 ⟨rfl, hc1, hf1⟩; have hr := nextF_le n V t; obtain ⟨r, hrF⟩ : ∃ r, r = nextF n V t := ⟨_, rfl⟩; rw [← hrF] at hr ⊢; have HrF : Hid (r = nextF n V t) := hrF; clear hrF; have H1 : Hid (Cur w1 p ad n c V (t + 1) ∧ Fr (fun x => x = p) w w1) := ⟨hc1, hf1⟩; clear hc1 hf1
 by_cases h2 : (200 : Int) < (M : Int)
 ·
  go_wp2_with fail
  refine (next_any p ad n c V (t + 1) w1 (by omega) hn H1.out.1).mono ?_; rintro e w2 ⟨rfl, hc2, hf2⟩; have hq := nextF_le n V (t + 1); obtain ⟨q, hqF⟩ : ∃ q, q = nextF n V (t + 1) := ⟨_, rfl⟩; rw [← hqF] at hq ⊢; have HqF : Hid (q = nextF n V (t + 1)) := hqF; clear hqF; have H2 : Hid (Cur w2 p ad n c V (t + 1 + 1) ∧ Fr (fun x => x = p) w w2) := ⟨hc2, H1.out.2.trans hf2⟩; clear hc2 hf2 H1; go_wp2; go_ret; refine ⟨⟨(r * 256 + q) % M, ?_, fun e => by omega, fun _ => ?_, (by rw [pickF, if_neg (by omega), if_pos (by omega), ← HrF.out, ← HqF.out]; rfl : (r * 256 + q) % M = pickF n V t (M : Int))⟩, ⟨t + 1 + 1, by omega, H2.out.1, (by rw [pickT, if_neg (by omega), if_pos (by omega)] : t + 1 + 1 = pickT t (M : Int))⟩, H2.out.2⟩
  ·
   show Ending.returned (Value.int .i64 (((r : Int) * 256 + (q : Int)) % (M : Int))) = _
   simp
  ·
   have := Nat.mod_lt (r * 256 + q) (show 0 < M by omega); omega
 ·
  go_wp2; go_ret; refine ⟨⟨r % M, ?_, fun e => by omega, fun _ => ?_, (by rw [pickF, if_neg (by omega), if_neg (by omega), ← HrF.out]; rfl : r % M = pickF n V t (M : Int))⟩, ⟨t + 1, by omega, H1.out.1, (by rw [pickT, if_neg (by omega), if_neg (by omega)] : t + 1 = pickT t (M : Int))⟩, H1.out.2⟩
  ·
   show Ending.returned (Value.int .i64 ((r : Int) % (M : Int))) = _
   simp
  ·
   have := Nat.mod_lt r (show 0 < M by omega); omega
def holdF (k : Nat) : ByteArray := ([⟨#[97, 110, 110]⟩, ⟨#[98, 111, 98]⟩, ⟨#[99, 121]⟩] : List ByteArray).getD k ⟨#[]⟩
def RetS (e : Ending) (k : Nat) (x : ByteArray) : Prop := ∃ s : ByteArray, e = .returned (.string s) ∧ s.size ≤ k ∧ Hid (s = x)
set_option maxHeartbeats 2000000 in
theorem holder_any (p : Nat) (ad : Option Addr) (n c : Nat) (V : Nat → UInt8) (t : Nat) (w : World) (ht : t ≤ 900000000) (hn : n ≤ 1048576) (h : Cur w p ad n c V t) :
  Calls Tryz.prog 81 #[.pointer (some ⟨p, 0, none⟩)] w fun e w' => RetS e 3 (holdF (pickF n V t 3)) ∧ CurTo w' p ad n c V t 2 (pickT t 3) ∧ Fr (fun x => x = p) w w' := by
 have HC : Hid (Cur w p ad n c V t) := h; have hp := h.lt; clear h; have B1 := below1 w (.cells #[.string ⟨#[97, 110, 110]⟩, .string ⟨#[98, 111, 98]⟩, .string ⟨#[99, 121]⟩] 9)
 go_enter Tryz.func81, Tryz.ntmps81
 go_wp2_with fail
 refine (pick_any p ad n c V t 3 _ ht hn (by omega) (HC.out.below B1)).mono ?_; rintro e w1 ⟨⟨r, rfl, -, hr, hF⟩, hc1, hf1⟩; have hr3 := hr (by omega); have x1 := (hf1.block w.heap.size (by simp) (by omega)).trans (Deep.blk_alloc_new _ _); obtain ⟨y0, y1, y2⟩ := cells3 x1; have H1 : Hid (CurTo w1 p ad n c V t 2 (pickT t 3) ∧ Fr (fun x => x = p) w w1) := ⟨hc1, (Fr.of_below B1).trans hf1⟩; clear hc1 hf1 x1 hr B1; rcases (show r = 0 ∨ r = 1 ∨ r = 2 by omega) with rfl | rfl | rfl
 all_goals (
  go_wp2; go_ret
  exact ⟨⟨_, rfl, by decide, (by rw [← hF.out]; rfl : _ = holdF (pickF n V t 3))⟩, H1.out.1, H1.out.2⟩)
end Go.Proofs.YtdlaekjofgbjcaaGreatDoor
/-
 The cursor's list. Mine, by template (wip/gen.py).
-/
namespace Go.Proofs.YtdlaekjofgbjcaaGreatDoor
open Go.RowKit
theorem len0_t' {n : Nat} (h : n = 0) : ((n : Int) == 0) = true := by subst h; rfl
theorem len0_f' {n : Nat} (h : ¬ n = 0) : ((n : Int) == 0) = false := beq_eq_false_iff_ne.2 (by omega)
theorem row_fr {w w' : World} {lo : Nat} {v : Value} {m : Nat} {xs : List Value} {p : Nat} (h : w.ownsRow lo 3 1 v m xs) (hf : Fr (fun x => x = p) w w') (hp : p < lo) : w'.ownsRow lo 3 1 v m xs :=
 owns_of_block h (fun g hg => hf.block g (owns_lt h hg).2 (by have := (owns_lt h hg).1; omega))
theorem Fr.cut {S T : Nat → Prop} {w w' : World} (h : Fr S w w') (ht : ∀ i, i < w.heap.size → S i → T i) : Fr T w w' := ⟨h.os, h.tape, h.output, h.size, fun i hi hn => h.block i hi (fun s => hn (ht i hi s))⟩
theorem Cur.adlt {w : World} {p : Nat} {ad : Option Addr} {n c : Nat} {V : Nat → UInt8} {t : Nat} (h : Cur w p ad n c V t) (hn : 0 < n) {b o : Nat} (ha : ad = some ⟨b, o, none⟩) : b < w.heap.size := by
 obtain ⟨_, b', o', h1, _, h3⟩ := h; have e := (h1 hn).symm.trans ha; simp only [Option.some.injEq, Addr.mk.injEq] at e; rw [← e.1]; exact World.block_lt_of_cell? _ _ (h3 0 hn)
theorem Cur.fr {S : Nat → Prop} {w w' : World} {p : Nat} {ad : Option Addr} {n c : Nat} {V : Nat → UInt8} {t : Nat} (h : Cur w p ad n c V t) (hf : Fr S w w') (hp : ¬ S p) (hb : 0 < n → ∀ b o, ad = some ⟨b, o, none⟩ → ¬ S b) : Cur w' p ad n c V t := by
 have hl := h.lt; obtain ⟨hx, b, o, h1, h2, h3⟩ := h; exact ⟨(hf.block _ hl hp).trans hx, b, o, h1, h2, fun i hi => (World.cell?_of_block (hf.block b (World.block_lt_of_cell? _ _ (h3 i hi)) (hb (by omega) b o (h1 (by omega))))).trans (h3 i hi)⟩
theorem owns_low {w : World} {lo lo' : Nat} {v : Value} {m : Nat} {xs : List Value} (h : w.ownsRow lo 3 1 v m xs) (hl : lo' ≤ lo) : w.ownsRow lo' 3 1 v m xs := by
 obtain ⟨h1, h2⟩ := h; refine ⟨h1, ?_⟩; rcases h2 with h2 | ⟨g, cap, cur, hv, hg, r⟩
 · exact Or.inl h2
 · exact Or.inr ⟨g, cap, cur, hv, Nat.le_trans hl hg, r⟩
def lstF (n : Nat) (V : Nat → UInt8) (t : Nat) : Nat → List Int × Nat
 | 0 => ([], t)
 | k + 1 => if (lstF n V t k).1.length < 20 then (if pickF n V (lstF n V t k).2 3 = 0 then (lstF n V t k).1 ++ [(k : Int)] else (lstF n V t k).1, pickT (lstF n V t k).2 3) else lstF n V t k
def listF (n : Nat) (V : Nat → UInt8) (t m : Nat) : List Int × Nat := if (lstF n V t m).1.length = 0 ∧ 0 < m then ([(pickF n V (lstF n V t m).2 m : Int)], pickT (lstF n V t m).2 m) else lstF n V t m
theorem lst_full {n : Nat} {V : Nat → UInt8} {t k : Nat} (h : ¬ (lstF n V t k).1.length < 20) (j : Nat) : lstF n V t (k + j) = lstF n V t k := by
 induction j with
 | zero => rfl
 | succ j ih =>
  show lstF n V t (k + j + 1) = _
  simp only [lstF]; rw [ih, if_neg h]
theorem lst_yes {n : Nat} {V : Nat → UInt8} {t k T r : Nat} {L : List Int} (h : lstF n V t k = (L, T)) (hl : L.length < 20) (hr : r = pickF n V T 3) (h0 : r = 0) : lstF n V t (k + 1) = (L ++ [(k : Int)], pickT T 3) := by
 simp only [lstF, h]; rw [if_pos hl, if_pos (hr ▸ h0)]
theorem lst_no {n : Nat} {V : Nat → UInt8} {t k T r : Nat} {L : List Int} (h : lstF n V t k = (L, T)) (hl : L.length < 20) (hr : r = pickF n V T 3) (h0 : ¬ r = 0) : lstF n V t (k + 1) = (L, pickT T 3) := by
 simp only [lstF, h]; rw [if_pos hl, if_neg (hr ▸ h0)]
theorem list_end {n : Nat} {V : Nat → UInt8} {t m k T : Nat} {L : List Int} (h : lstF n V t k = (L, T)) (hk : k ≤ m) (hf : k = m ∨ ¬ L.length < 20) (h0 : ¬ (L.length = 0 ∧ 0 < m)) : listF n V t m = (L, T) := by
 have e : lstF n V t m = (L, T) := by
  rcases hf with rfl | hf
  · exact h
  ·
   obtain ⟨j, rfl⟩ : ∃ j, m = k + j := ⟨m - k, by omega⟩; rw [lst_full (by rw [h]; exact hf), h]
 unfold listF; rw [e, if_neg h0]
theorem list_one {n : Nat} {V : Nat → UInt8} {t m T r : Nat} (h : lstF n V t m = ([], T)) (h0 : 0 < m) (hr : r = pickF n V T m) : listF n V t m = ([(r : Int)], pickT T m) := by
 unfold listF; rw [h, if_pos ⟨rfl, h0⟩, hr]
def RetI (e : Ending) (w' : World) (lo : Nat) (x : List Int) : Prop := ∃ (v : Value) (L : List Int), e = .returned v ∧ w'.ownsRow lo 3 1 v L.length (L.map (Value.int .i64)) ∧ L.length ≤ 20 ∧ Hid (L = x)
set_option maxRecDepth 4000 in
set_option maxHeartbeats 4000000 in
theorem list_any (p : Nat) (ad : Option Addr) (n c : Nat) (V : Nat → UInt8) (t m : Nat) (w : World) (ht : t ≤ 800000000) (hn : n ≤ 1048576) (hm : m ≤ 60) (h : Cur w p ad n c V t) :
  Calls Tryz.prog 82 #[.pointer (some ⟨p, 0, none⟩), .int .i64 (m : Int)] w fun e w' => RetI e w' w.heap.size (listF n V t m).1 ∧ CurTo w' p ad n c V t 130 (listF n V t m).2 ∧ Fr (fun x => x = p) w w' := by
 have HC : Hid (Cur w p ad n c V t) := h; have hp := h.lt; clear h; obtain ⟨i0, hi, hz0, hz1, hz2⟩ := info_parts Tryz.infoInt
 go_enter Tryz.func82, Tryz.ntmps82
 go_wp2
 go_loopw [5, 6] (fun u i wr => ∃ (k : Nat) (L : List Int) (v : Value), k ≤ m ∧ i = .int .i64 k ∧ u = v ∧ wr.ownsRow w.heap.size 3 1 v L.length (L.map (Value.int .i64)) ∧ L.length ≤ 20 ∧ CurTo wr p ad n c V t (2 * k) (lstF n V t k).2 ∧ Hid (L = (lstF n V t k).1) ∧ Fr (fun x => x = p) w wr) (fun _ i _ => m - (intOf i).toNat)
 case atStart => exact ⟨0, [], _, Nat.zero_le _, rfl, rfl, World.ownsRow_nil _ _ _ _, by simp, ⟨t, by omega, HC.out, rfl⟩, (rfl : ([] : List Int) = _), Fr.refl _ _⟩
 case round =>
  obtain ⟨k, L, u3, hk, rfl, hu, hown, hl, ⟨t1, ht1, hc1, hT1⟩, hL1, hf⟩ := hrel; have HF : Hid (lstF n V t k = (L, t1)) := Prod.ext hL1.out.symm hT1.out.symm; clear hT1 hL1; obtain rfl := hu.symm; obtain ⟨gL, adL, cpL, rfl, hgL⟩ := ownL_of hown; have hz : w.heap.size ≤ wr.heap.size := hf.size
  by_cases hgo : k < m ∧ L.length < 20
  ·
   have tk : ((k : Int) < (m : Int)) := by omega
   have tl : ((L.length : Int) < 20) := by omega
   have HL : Hid (wr.ownsRow w.heap.size 3 1 (.slice adL L.length cpL) L.length (L.map (Value.int .i64)) ∧ Cur wr p ad n c V t1 ∧ Fr (fun x => x = p) w wr) := ⟨hown, hc1, hf⟩; clear hown hgL hc1 hf
   go_wp2_with fail
   refine (pick_any p ad n c V t1 3 wr (by omega) hn (by omega) HL.out.2.1).mono ?_; rintro e w2 ⟨⟨r, rfl, -, -, hF2⟩, ⟨t2, ht2, hc2, hT2⟩, hf2⟩; have H2 : Hid (w2.ownsRow w.heap.size 3 1 (.slice adL L.length cpL) L.length (L.map (Value.int .i64)) ∧ Cur w2 p ad n c V t2 ∧ Fr (fun x => x = p) w w2) := ⟨row_fr HL.out.1 hf2 hp, hc2, HL.out.2.2.trans hf2⟩; have hz2' : w.heap.size ≤ w2.heap.size := Nat.le_trans hz hf2.size; clear hc2 hf2 HL
   by_cases hr : (r : Int) = 0
   ·
    have tr : ((r : Int) == 0) = true := by simpa using hr
    have HG : Hid (lstF n V t (k + 1) = (L ++ [(k : Int)], t2)) := by rw [hT2.out]; exact lst_yes HF.out hgo.2 hF2.out (by omega)
    clear hr hF2 hT2
    go_wp2_with (at_builtin; refine wpList_append_own _ rfl _ _ 30 rfl w.heap.size 3 i0 (.int .i64 0) 1 8 Tryz.underlying30 hi hz0 hz1 hz2 rfl (by decide) _ _ _ rfl (H2.out.1.alloc _) ⟨w2.heap.size, 0, none⟩ 1 1 [.int .i64 (k : Int)] rfl rfl (cell_one_new _ _ _) (ints_oneCell .i64 [(k : Int)]) (by unfold maxLen; omega) (by omega) (by simp; omega) ?_; intro v' w5 hown5 hgrow5 _)
    go_roundw
    case rel =>
     have hga : Fr (fun x => (Value.slice adL L.length cpL).ownBlock = some x) (w2.alloc (.cells #[.int .i64 (k : Int)] 3)) w5 := ⟨hgrow5.os, hgrow5.tape, hgrow5.output, hgrow5.size, fun j hj hn => hgrow5.block j hj (fun e => hn e.symm)⟩; have hlow : ∀ x, (Value.slice adL L.length cpL).ownBlock = some x → w.heap.size ≤ x := fun x hx => (owns_lt H2.out.1 hx).1; refine ⟨k + 1, L ++ [(k : Int)], _, by omega, by go_num, rfl, ?_, by simp; omega, ⟨t2, by omega, ?_, (by rw [HG.out] : t2 = (lstF n V t (k + 1)).2)⟩, (by rw [HG.out] : L ++ [(k : Int)] = (lstF n V t (k + 1)).1), ?_⟩
     · simpa using hown5
     · exact (H2.out.2.1.below (below1 _ _)).fr hga (fun e => by have := hlow _ e; omega) (fun hn0 b o ha e => by have := hlow _ e; have := HC.out.adlt hn0 ha; omega)
     ·
      exact ((H2.out.2.2.alloc (.cells #[.int .i64 (k : Int)] 3)).mono (T := fun x => x = p ∨ (Value.slice adL L.length cpL).ownBlock = some x) (fun i e => Or.inl e)).trans (hga.mono (fun i e => Or.inr e)) |>.cut (fun i hi e => by
       rcases e with e | e
       · exact e
       · have := hlow _ e; omega)
    case measure => simp [intOf]; omega
   ·
    have tr : ((r : Int) == 0) = false := by simpa using hr
    have HG : Hid (lstF n V t (k + 1) = (L, t2)) := by rw [hT2.out]; exact lst_no HF.out hgo.2 hF2.out (by omega)
    clear hr hF2 hT2; go_wp2; go_roundw
    case rel => exact ⟨k + 1, L, _, by omega, by go_num, rfl, H2.out.1, hl, ⟨t2, by omega, H2.out.2.1, (by rw [HG.out] : t2 = (lstF n V t (k + 1)).2)⟩, (by rw [HG.out] : L = (lstF n V t (k + 1)).1), H2.out.2.2⟩
    case measure => simp [intOf]; omega
  ·
   have HL : Hid (wr.ownsRow w.heap.size 3 1 (.slice adL L.length cpL) L.length (L.map (Value.int .i64)) ∧ Cur wr p ad n c V t1 ∧ Fr (fun x => x = p) w wr) := ⟨hown, hc1, hf⟩; have tm : (m : Int) ≤ 60 := by omega
   clear hown hgL hc1 hf
   by_cases h0 : L.length = 0 ∧ 0 < m
   ·
    obtain rfl : L = [] := List.length_eq_zero_iff.1 h0.1; have hk' : k = m := by simp at hgo; omega
    subst hk'; have tm0 : (0 : Int) < (k : Int) := by have := h0.2; omega
    clear hgo h0
    go_wp2_with fail
    refine (pick_any p ad n c V t1 k wr (by omega) hn (by omega) HL.out.2.1).mono ?_; rintro e w2 ⟨⟨r, rfl, -, -, hF2⟩, ⟨t2, ht2, hc2, hT2⟩, hf2⟩; have HG : Hid (listF n V t k = ([(r : Int)], t2)) := by rw [hT2.out]; exact list_one HF.out (by omega) hF2.out
    clear hF2 hT2; have H2 : Hid (Cur w2 p ad n c V t2 ∧ Fr (fun x => x = p) w w2) := ⟨hc2, HL.out.2.2.trans hf2⟩; have hz2' : w.heap.size ≤ w2.heap.size := Nat.le_trans hz hf2.size; clear hc2 hf2 HL; go_wp2; go_ret; exact ⟨⟨_, [(r : Int)], rfl, ⟨rfl, Or.inr ⟨w2.heap.size, 1, #[.int .i64 (r : Int)], rfl, hz2', Deep.blk_alloc_new _ _, by simp, by unfold maxLen; omega, rfl, rfl⟩⟩, by simp, (by rw [HG.out] : [(r : Int)] = (listF n V t k).1)⟩, ⟨t2, by omega, H2.out.1.below (below1 _ _), (by rw [HG.out] : t2 = (listF n V t k).2)⟩, H2.out.2.alloc _⟩
   ·
    by_cases hl0 : L.length = 0
    ·
     obtain rfl : L = [] := List.length_eq_zero_iff.1 hl0; have hm0 : m = 0 := by simp at h0; omega
     subst hm0; obtain rfl : k = 0 := by omega
     clear hgo h0 hl0; have HG : Hid (listF n V t 0 = ([], t1)) := list_end HF.out (Nat.le_refl _) (Or.inl rfl) (fun q => absurd q.2 (by omega)); go_wp2; go_ret; exact ⟨⟨_, [], rfl, HL.out.1, hl, (by rw [HG.out] : ([] : List Int) = (listF n V t 0).1)⟩, ⟨t1, by omega, HL.out.2.1, (by rw [HG.out] : t1 = (listF n V t 0).2)⟩, HL.out.2.2⟩
    ·
     have tl : ((L.length : Int) == 0) = false := len0_f' hl0
     by_cases hkm : k < m
     ·
      have tk : ((k : Int) < (m : Int)) := by omega
      have t20 : ¬ ((L.length : Int) < 20) := by omega
      have HG : Hid (listF n V t m = (L, t1)) := list_end HF.out (by omega) (by omega) h0; clear hgo h0 hl0; go_wp2; go_ret; exact ⟨⟨_, L, rfl, HL.out.1, hl, (by rw [HG.out] : L = (listF n V t m).1)⟩, ⟨t1, by omega, HL.out.2.1, (by rw [HG.out] : t1 = (listF n V t m).2)⟩, HL.out.2.2⟩
     ·
      have tk : ¬ ((k : Int) < (m : Int)) := by omega
      have HG : Hid (listF n V t m = (L, t1)) := list_end HF.out (by omega) (by omega) h0; clear hgo h0 hl0; go_wp2; go_ret; exact ⟨⟨_, L, rfl, HL.out.1, hl, (by rw [HG.out] : L = (listF n V t m).1)⟩, ⟨t1, by omega, HL.out.2.1, (by rw [HG.out] : t1 = (listF n V t m).2)⟩, HL.out.2.2⟩
end Go.Proofs.YtdlaekjofgbjcaaGreatDoor
