/-
 The contract of spec's reader: (*l3R).num. Mine, by program (wip/hear3.py), by template (wip/gen.py).
-/
import Derived.Test.YtdlaekjofgbjcaaGreatDoorBaseZ
import Derived.Test.YtdlaekjofgbjcaaGreatDoorHearC
namespace Go.Proofs.YtdlaekjofgbjcaaGreatDoor
open Go.RowKit
theorem drop_chr (s : ByteArray) (k : Nat) (h : k < s.size) : ∃ b : UInt8, (bl s).drop k = b :: (bl s).drop (k + 1) ∧ b.toNat = chr s k ∧ (s[k].toNat : Int) = (chr s k : Int) := by
 have hk : k < (bl s).length := by rw [bl_size]; exact h
 refine ⟨(bl s)[k], List.drop_eq_getElem_cons hk, ?_, ?_⟩
 ·
  unfold chr; have e : s.data.toList[k]? = some ((bl s)[k]) := List.getElem?_eq_getElem hk; rw [List.getD_eq_getElem?_getD, e]; rfl
 · rw [chr_eq s k h]
theorem dgt_iff {b : UInt8} : dgt b = true ↔ 48 ≤ b.toNat ∧ b.toNat ≤ 57 := by unfold dgt; simp
theorem numR_go {j m k : Nat} {s : ByteArray} (h : k < s.size) (h1 : 48 ≤ chr s k) (h2 : chr s k ≤ 57) (h3 : j < 3) (h4 : j = 0 ∨ 0 < m) : numR j m ((bl s).drop k) = numR (j + 1) (10 * m + (chr s k - 48)) ((bl s).drop (k + 1)) := by
 obtain ⟨b, e, hb, -⟩ := drop_chr s k h; rw [e]; simp only [numR]; rw [if_pos ⟨dgt_iff.2 (by omega), h3, h4⟩, hb]
theorem numR_no {j m k : Nat} {s : ByteArray} (h : k < s.size → ¬ (48 ≤ chr s k ∧ chr s k ≤ 57 ∧ j < 3 ∧ (j = 0 ∨ 0 < m))) : numR j m ((bl s).drop k) = (j, m, (bl s).drop k) := by
 by_cases hk : k < s.size
 ·
  obtain ⟨b, e, hb, -⟩ := drop_chr s k hk; rw [e]; simp only [numR]; rw [if_neg (fun q => h hk ⟨by have := dgt_iff.1 q.1; omega, by have := dgt_iff.1 q.1; omega, q.2.1, q.2.2⟩)]
 ·
  rw [List.drop_eq_nil_of_le (by rw [bl_size]; omega)]; rfl
theorem wrap_sm {x : Int} (h : 0 ≤ x ∧ x ≤ 9223372036854775807) : IntKind.i64.wrap x = x := by
 simp [IntKind.wrap, IntKind.signed, IntKind.bits]; omega
theorem digit_val (m x : Nat) (hm : m ≤ 99) (h1 : 48 ≤ x) (h2 : x ≤ 57) : IntKind.i64.wrap (IntKind.i64.wrap (10 * (m : Int)) + IntKind.i64.wrap (IntKind.u8.wrap ((x : Int) - 48))) = ((10 * m + (x - 48) : Nat) : Int) := by
 simp [IntKind.wrap, IntKind.signed, IntKind.bits]; omega
theorem digit_val0 (x : Nat) (h1 : 48 ≤ x) (h2 : x ≤ 57) : IntKind.i64.wrap (IntKind.i64.wrap 0 + IntKind.i64.wrap (IntKind.u8.wrap ((x : Int) - 48))) = ((10 * 0 + (x - 48) : Nat) : Int) := by
 simp [IntKind.wrap, IntKind.signed, IntKind.bits]; omega
structure NumSt (w : World) (q : Nat) (s : ByteArray) (a : Nat) (bad : Bool) (wr : World) (k m : Nat) : Prop where
 eq : numR 0 0 ((bl s).drop a) = numR (k - a) m ((bl s).drop k)
 rd : RdAt wr q s k bad
 fr : Fr (fun x => x = q) w wr
set_option maxRecDepth 20000 in
set_option maxHeartbeats 8000000 in
theorem num_any (q : Nat) (s : ByteArray) (a : Nat) (bad : Bool) (w : World) (hs : s.size ≤ 4294967296) (ha : a ≤ s.size) (h : RdAt w q s a bad) :
  Calls Tryz.prog 47 #[.pointer (some ⟨q, 0, none⟩)] w fun e w' => ∃ k m, a ≤ k ∧ k ≤ s.size ∧ numR 0 0 ((bl s).drop a) = (k - a, m, (bl s).drop k) ∧ e = .returned (.int .i64 (m : Int)) ∧ RdAt w' q s k (bad || decide (k - a = 0)) ∧ Fr (fun x => x = q) w w' := by
 have HR : Hid (RdAt w q s a bad) := h; obtain ⟨c0, c1, c2⟩ := rd_cells h; clear h
 go_enter Tryz.func47, Tryz.ntmps47
 go_wp2
 go_loopw [3] (fun v wr => ∃ k m : Nat, a ≤ k ∧ k ≤ s.size ∧ k ≤ a + 3 ∧ m ≤ 999 ∧ (k = a → m = 0) ∧ (k ≤ a + 1 → m ≤ 9) ∧ (k ≤ a + 2 → m ≤ 99) ∧ v = .int .i64 (m : Int) ∧ NumSt w q s a bad wr k m) (fun _ wr => s.size - rdPos wr q)
 case atStart => exact ⟨a, 0, Nat.le_refl _, ha, by omega, by omega, fun _ => rfl, fun _ => by omega, fun _ => by omega, rfl, by rw [Nat.sub_self], HR.out, Fr.refl _ _⟩
 case round =>
  obtain ⟨k, m, h0, h1, h2, h3, h4, h5, h6, hv, hst⟩ := hrel; subst hv; have HK : Hid (NumSt w q s a bad wr k m) := hst; obtain ⟨d0, d1, d2⟩ := rd_cells hst.rd; have f1 := rd_frozen hst.rd 1; have f2 := rd_frozen hst.rd 2; clear hst c0 c1 c2; have hws := wrap_sm (x := (k : Int) - (a : Int)) ⟨by omega, by omega⟩
  by_cases hlt : k < s.size
  ·
   obtain ⟨b, -, hb, hc⟩ := drop_chr s k hlt; have HC : Hid ((s[k].toNat : Int) = (chr s k : Int)) := hc
   by_cases l1 : 48 ≤ chr s k
   ·
    have t1 : decide ((48 : Int) ≤ (s[k].toNat : Int)) = true := decide_eq_true (by omega)
    by_cases l2 : chr s k ≤ 57
    ·
     have t2 : decide ((s[k].toNat : Int) ≤ 57) = true := decide_eq_true (by omega)
     by_cases l3 : k < a + 3
     ·
      have t3 : decide ((k : Int) - (a : Int) < 3) = true := decide_eq_true (by omega); clear hc
      by_cases l4 : k = a
      ·
       subst l4; obtain rfl : m = 0 := h4 rfl; go_wp2; refine wp_region_held_drew (S := (fun w' => w'.cell? ⟨q, 0, none⟩ = some (.string s) ∧ w'.cell? ⟨q, 1, none⟩ = some (.int .i64 (k : Int)))) (by kernel_rfl) (by simp [go_sem, d0, d1]) (fun hS0 => ?_); refine tk 0 rfl ?_; refine tk 1 rfl ?_; refine tk 2 rfl ?_; refine tk 3 rfl ?_; refine tk 4 rfl ?_; refine tk 5 rfl ?_; refine tk 6 rfl ?_; refine tk 7 rfl ?_; refine tk 8 rfl ?_; refine tk 9 rfl ?_; refine tk 10 rfl ?_; refine tk 11 rfl ?_; refine tk 12 rfl ?_; refine tk 13 rfl ?_; refine tk 14 rfl ?_; refine tk 15 rfl ?_; refine tk 16 rfl ?_; refine tk 17 rfl ?_; refine tk 18 rfl ?_; refine tk 19 rfl ?_; refine tk 20 rfl ?_; refine tk 21 rfl ?_; refine tk 22 rfl ?_; refine tk 23 rfl ?_; refine tk 24 rfl ?_; refine tk 25 rfl ?_; refine tk 26 rfl ?_; refine tk 27 rfl ?_; refine tk 28 rfl ?_; refine tk 29 rfl ?_; refine tk 30 rfl ?_; refine tk 31 rfl ?_; refine tk 32 rfl ?_; refine tk 33 rfl ?_; refine tk 34 rfl ?_; refine tk 35 rfl ?_; refine tk 36 rfl ?_; refine tk 37 rfl ?_; refine tk 38 rfl ?_; refine tk 39 rfl ?_; refine tk 40 rfl ?_; refine tk 41 rfl ?_; refine tk 42 rfl ?_; refine tk 43 rfl ?_; refine tk 44 rfl ?_; refine tk 45 rfl ?_; refine tk 46 rfl ?_; refine tk 47 rfl ?_; refine tk 48 rfl ?_; refine tk 49 rfl ?_; refine tk 50 rfl ?_; refine tu 51 rfl ?_; refine tu 52 rfl ?_; refine tk 53 rfl ?_; refine tk 54 rfl ?_; refine wpAnyH_done (by kernel_rfl) ?_ _; go_simp; go_wp2; refine wp_region_held_drew (S := (fun w' => w'.cell? ⟨q, 0, none⟩ = some (.string s) ∧ w'.cell? ⟨q, 1, none⟩ = some (.int .i64 (k : Int)))) (by kernel_rfl) (by simp [go_sem, d0, d1]) (fun hS0 => ?_); refine tk 0 rfl ?_; refine tk 1 rfl ?_; refine tk 2 rfl ?_; refine tk 3 rfl ?_; refine tk 4 rfl ?_; refine tk 5 rfl ?_; refine tk 6 rfl ?_; refine tk 7 rfl ?_; refine tk 8 rfl ?_; refine tk 9 rfl ?_; refine tk 10 rfl ?_; refine tk 11 rfl ?_; refine tk 12 rfl ?_; refine tk 13 rfl ?_; refine tk 14 rfl ?_; refine wpAnyH_done (by kernel_rfl) ?_ _; go_simp; go_wp2; go_roundw
       case rel => exact ⟨k + 1, 10 * 0 + (chr s k - 48), by omega, by omega, by omega, by omega, fun e => by omega, fun _ => by omega, fun _ => by omega, by rw [HC.out]; exact congrArg (Value.int .i64) (digit_val0 _ l1 l2), by rw [HK.out.eq, numR_go hlt l1 l2 (by omega) (Or.inl (by omega)), show k + 1 - k = k - k + 1 by omega], (box_set' HK.out.rd _).trans rfl, (fr2 HK.out.fr).drew2.drew2⟩
       case measure =>
        rw [rdPos_of HK.out.rd]; have e : RdAt (wr.setCell ⟨q, 1, none⟩ (.int .i64 ((k : Int) + 1))).drew.drew q s (k + 1) bad := (box_set' HK.out.rd _).trans rfl; rw [rdPos_of e]; omega
      ·
       have t4 : ((k : Int) == (a : Int)) = false := beq_eq_false_iff_ne.2 (by omega)
       by_cases l5 : 0 < m
       ·
        have t5 : decide ((0 : Int) < (m : Int)) = true := decide_eq_true (by omega); go_wp2; refine wp_region_held_drew (S := (fun w' => w'.cell? ⟨q, 0, none⟩ = some (.string s) ∧ w'.cell? ⟨q, 1, none⟩ = some (.int .i64 (k : Int)))) (by kernel_rfl) (by simp [go_sem, d0, d1]) (fun hS0 => ?_); refine tk 0 rfl ?_; refine tk 1 rfl ?_; refine tk 2 rfl ?_; refine tk 3 rfl ?_; refine tk 4 rfl ?_; refine tk 5 rfl ?_; refine tk 6 rfl ?_; refine tk 7 rfl ?_; refine tk 8 rfl ?_; refine tk 9 rfl ?_; refine tk 10 rfl ?_; refine tk 11 rfl ?_; refine tk 12 rfl ?_; refine tk 13 rfl ?_; refine tk 14 rfl ?_; refine tk 15 rfl ?_; refine tk 16 rfl ?_; refine tk 17 rfl ?_; refine tk 18 rfl ?_; refine tk 19 rfl ?_; refine tk 20 rfl ?_; refine tk 21 rfl ?_; refine tk 22 rfl ?_; refine tk 23 rfl ?_; refine tk 24 rfl ?_; refine tk 25 rfl ?_; refine tk 26 rfl ?_; refine tk 27 rfl ?_; refine tk 28 rfl ?_; refine tk 29 rfl ?_; refine tk 30 rfl ?_; refine tk 31 rfl ?_; refine tk 32 rfl ?_; refine tk 33 rfl ?_; refine tk 34 rfl ?_; refine tk 35 rfl ?_; refine tk 36 rfl ?_; refine tk 37 rfl ?_; refine tk 38 rfl ?_; refine tk 39 rfl ?_; refine tk 40 rfl ?_; refine tk 41 rfl ?_; refine tk 42 rfl ?_; refine tk 43 rfl ?_; refine tk 44 rfl ?_; refine tk 45 rfl ?_; refine tk 46 rfl ?_; refine tk 47 rfl ?_; refine tk 48 rfl ?_; refine tk 49 rfl ?_; refine tk 50 rfl ?_; refine tk 51 rfl ?_; refine tk 52 rfl ?_; refine tk 53 rfl ?_; refine tk 54 rfl ?_; refine wpAnyH_done (by kernel_rfl) ?_ _; go_simp; go_wp2; refine wp_region_held_drew (S := (fun w' => w'.cell? ⟨q, 0, none⟩ = some (.string s) ∧ w'.cell? ⟨q, 1, none⟩ = some (.int .i64 (k : Int)))) (by kernel_rfl) (by simp [go_sem, d0, d1]) (fun hS0 => ?_); refine tk 0 rfl ?_; refine tk 1 rfl ?_; refine tk 2 rfl ?_; refine tk 3 rfl ?_; refine tk 4 rfl ?_; refine tk 5 rfl ?_; refine tk 6 rfl ?_; refine tk 7 rfl ?_; refine tk 8 rfl ?_; refine tk 9 rfl ?_; refine tk 10 rfl ?_; refine tk 11 rfl ?_; refine tk 12 rfl ?_; refine tk 13 rfl ?_; refine tk 14 rfl ?_; refine wpAnyH_done (by kernel_rfl) ?_ _; go_simp; go_wp2; go_roundw
        case rel => exact ⟨k + 1, 10 * m + (chr s k - 48), by omega, by omega, by omega, by omega, fun e => by omega, fun e => absurd e (by omega), fun e => by have := h5 (by omega); omega, by rw [HC.out]; exact congrArg (Value.int .i64) (digit_val m _ (h6 (by omega)) l1 l2), by rw [HK.out.eq, numR_go hlt l1 l2 (by omega) (Or.inr l5), show k + 1 - a = k - a + 1 by omega], (box_set' HK.out.rd _).trans rfl, (fr2 HK.out.fr).drew2.drew2⟩
        case measure =>
         rw [rdPos_of HK.out.rd]; have e : RdAt (wr.setCell ⟨q, 1, none⟩ (.int .i64 ((k : Int) + 1))).drew.drew q s (k + 1) bad := (box_set' HK.out.rd _).trans rfl; rw [rdPos_of e]; omega
       ·
        have t5 : decide ((0 : Int) < (m : Int)) = false := decide_eq_false (by omega); have HN : Hid (numR (k - a) m ((bl s).drop k) = (k - a, m, (bl s).drop k)) := numR_no (fun _ e => by omega); go_wp2; refine wp_region_held_drew (S := (fun w' => w'.cell? ⟨q, 0, none⟩ = some (.string s) ∧ w'.cell? ⟨q, 1, none⟩ = some (.int .i64 (k : Int)))) (by kernel_rfl) (by simp [go_sem, d0, d1]) (fun hS0 => ?_); refine tk 0 rfl ?_; refine tk 1 rfl ?_; refine tk 2 rfl ?_; refine tk 3 rfl ?_; refine tk 4 rfl ?_; refine tk 5 rfl ?_; refine tk 6 rfl ?_; refine tk 7 rfl ?_; refine tk 8 rfl ?_; refine tk 9 rfl ?_; refine tk 10 rfl ?_; refine tk 11 rfl ?_; refine tk 12 rfl ?_; refine tk 13 rfl ?_; refine tk 14 rfl ?_; refine tk 15 rfl ?_; refine tk 16 rfl ?_; refine tk 17 rfl ?_; refine tk 18 rfl ?_; refine tk 19 rfl ?_; refine tk 20 rfl ?_; refine tk 21 rfl ?_; refine tk 22 rfl ?_; refine tk 23 rfl ?_; refine tk 24 rfl ?_; refine tk 25 rfl ?_; refine tk 26 rfl ?_; refine tk 27 rfl ?_; refine tk 28 rfl ?_; refine tk 29 rfl ?_; refine tk 30 rfl ?_; refine tk 31 rfl ?_; refine tk 32 rfl ?_; refine tk 33 rfl ?_; refine tk 34 rfl ?_; refine tk 35 rfl ?_; refine tk 36 rfl ?_; refine tk 37 rfl ?_; refine tk 38 rfl ?_; refine tk 39 rfl ?_; refine tk 40 rfl ?_; refine tk 41 rfl ?_; refine tk 42 rfl ?_; refine tk 43 rfl ?_; refine tk 44 rfl ?_; refine tk 45 rfl ?_; refine tk 46 rfl ?_; refine tk 47 rfl ?_; refine tk 48 rfl ?_; refine tk 49 rfl ?_; refine tk 50 rfl ?_; refine tk 51 rfl ?_; refine tk 52 rfl ?_; refine tk 53 rfl ?_; refine tk 54 rfl ?_; refine wpAnyH_done (by kernel_rfl) ?_ _; go_simp; cases bad
        ·
         have tk : ((k : Int) == (a : Int)) = false := beq_eq_false_iff_ne.2 (by omega); go_wp2; go_ret; exact ⟨k, m, h0, h1, HK.out.eq.trans HN.out, rfl, (box_set' HK.out.rd _).trans (by rw [show decide (k - a = 0) = false from decide_eq_false (by omega)]; rfl), (fr2 HK.out.fr).drew2⟩
        ·
         go_wp2; go_ret; exact ⟨k, m, h0, h1, HK.out.eq.trans HN.out, rfl, (box_set' HK.out.rd _).trans rfl, (fr2 HK.out.fr).drew2⟩
     ·
      have t3 : decide ((k : Int) - (a : Int) < 3) = false := decide_eq_false (by omega); have HN : Hid (numR (k - a) m ((bl s).drop k) = (k - a, m, (bl s).drop k)) := numR_no (fun _ e => by omega); clear hc; go_wp2; refine wp_region_held_drew (S := (fun w' => w'.cell? ⟨q, 0, none⟩ = some (.string s) ∧ w'.cell? ⟨q, 1, none⟩ = some (.int .i64 (k : Int)))) (by kernel_rfl) (by simp [go_sem, d0, d1]) (fun hS0 => ?_); refine tk 0 rfl ?_; refine tk 1 rfl ?_; refine tk 2 rfl ?_; refine tk 3 rfl ?_; refine tk 4 rfl ?_; refine tk 5 rfl ?_; refine tk 6 rfl ?_; refine tk 7 rfl ?_; refine tk 8 rfl ?_; refine tk 9 rfl ?_; refine tk 10 rfl ?_; refine tk 11 rfl ?_; refine tk 12 rfl ?_; refine tk 13 rfl ?_; refine tk 14 rfl ?_; refine tk 15 rfl ?_; refine tk 16 rfl ?_; refine tk 17 rfl ?_; refine tk 18 rfl ?_; refine tk 19 rfl ?_; refine tk 20 rfl ?_; refine tk 21 rfl ?_; refine tk 22 rfl ?_; refine tk 23 rfl ?_; refine tk 24 rfl ?_; refine tk 25 rfl ?_; refine tk 26 rfl ?_; refine tk 27 rfl ?_; refine tk 28 rfl ?_; refine tk 29 rfl ?_; refine tk 30 rfl ?_; refine tk 31 rfl ?_; refine tk 32 rfl ?_; refine tk 33 rfl ?_; refine tk 34 rfl ?_; refine tk 35 rfl ?_; refine tk 36 rfl ?_; refine tk 37 rfl ?_; refine tk 38 rfl ?_; refine tk 39 rfl ?_; refine tk 40 rfl ?_; refine tk 41 rfl ?_; refine tk 42 rfl ?_; refine tk 43 rfl ?_; refine tu 44 rfl ?_; refine tu 45 rfl ?_; refine tu 46 rfl ?_; refine tu 47 rfl ?_; refine tu 48 rfl ?_; refine tu 49 rfl ?_; refine tu 50 rfl ?_; refine tu 51 rfl ?_; refine tu 52 rfl ?_; refine tu 53 rfl ?_; refine tk 54 rfl ?_; refine wpAnyH_done (by kernel_rfl) ?_ _; go_simp; cases bad
      ·
       have tk : ((k : Int) == (a : Int)) = false := beq_eq_false_iff_ne.2 (by omega); go_wp2; go_ret; exact ⟨k, m, h0, h1, HK.out.eq.trans HN.out, rfl, (box_set' HK.out.rd _).trans (by rw [show decide (k - a = 0) = false from decide_eq_false (by omega)]; rfl), (fr2 HK.out.fr).drew2⟩
      ·
       go_wp2; go_ret; exact ⟨k, m, h0, h1, HK.out.eq.trans HN.out, rfl, (box_set' HK.out.rd _).trans rfl, (fr2 HK.out.fr).drew2⟩
    ·
     have t2 : decide ((s[k].toNat : Int) ≤ 57) = false := decide_eq_false (by omega); have HN : Hid (numR (k - a) m ((bl s).drop k) = (k - a, m, (bl s).drop k)) := numR_no (fun _ e => by omega); clear hc; go_wp2; refine wp_region_held_drew (S := (fun w' => w'.cell? ⟨q, 0, none⟩ = some (.string s) ∧ w'.cell? ⟨q, 1, none⟩ = some (.int .i64 (k : Int)))) (by kernel_rfl) (by simp [go_sem, d0, d1]) (fun hS0 => ?_); refine tk 0 rfl ?_; refine tk 1 rfl ?_; refine tk 2 rfl ?_; refine tk 3 rfl ?_; refine tk 4 rfl ?_; refine tk 5 rfl ?_; refine tk 6 rfl ?_; refine tk 7 rfl ?_; refine tk 8 rfl ?_; refine tk 9 rfl ?_; refine tk 10 rfl ?_; refine tk 11 rfl ?_; refine tk 12 rfl ?_; refine tk 13 rfl ?_; refine tk 14 rfl ?_; refine tk 15 rfl ?_; refine tk 16 rfl ?_; refine tk 17 rfl ?_; refine tk 18 rfl ?_; refine tk 19 rfl ?_; refine tk 20 rfl ?_; refine tk 21 rfl ?_; refine tk 22 rfl ?_; refine tk 23 rfl ?_; refine tk 24 rfl ?_; refine tk 25 rfl ?_; refine tk 26 rfl ?_; refine tk 27 rfl ?_; refine tk 28 rfl ?_; refine tk 29 rfl ?_; refine tk 30 rfl ?_; refine tk 31 rfl ?_; refine tk 32 rfl ?_; refine tk 33 rfl ?_; refine tk 34 rfl ?_; refine tu 35 rfl ?_; refine tu 36 rfl ?_; refine tu 37 rfl ?_; refine tu 38 rfl ?_; refine tu 39 rfl ?_; refine tu 40 rfl ?_; refine tu 41 rfl ?_; refine tk 42 rfl ?_; refine tk 43 rfl ?_; refine tu 44 rfl ?_; refine tu 45 rfl ?_; refine tu 46 rfl ?_; refine tu 47 rfl ?_; refine tu 48 rfl ?_; refine tu 49 rfl ?_; refine tu 50 rfl ?_; refine tu 51 rfl ?_; refine tu 52 rfl ?_; refine tu 53 rfl ?_; refine tk 54 rfl ?_; refine wpAnyH_done (by kernel_rfl) ?_ _; go_simp; cases bad
     ·
      by_cases hka : k = a
      ·
       have tk : ((k : Int) == (a : Int)) = true := by subst hka; exact beq_self_eq_true _
       go_wp2; go_ret; exact ⟨k, m, h0, h1, HK.out.eq.trans HN.out, rfl, (box_set' HK.out.rd _).trans (by rw [show decide (k - a = 0) = true from decide_eq_true (by omega)]; rfl), (fr2 HK.out.fr).drew2⟩
      ·
       have tk : ((k : Int) == (a : Int)) = false := beq_eq_false_iff_ne.2 (by omega); go_wp2; go_ret; exact ⟨k, m, h0, h1, HK.out.eq.trans HN.out, rfl, (box_set' HK.out.rd _).trans (by rw [show decide (k - a = 0) = false from decide_eq_false (by omega)]; rfl), (fr2 HK.out.fr).drew2⟩
     ·
      go_wp2; go_ret; exact ⟨k, m, h0, h1, HK.out.eq.trans HN.out, rfl, (box_set' HK.out.rd _).trans rfl, (fr2 HK.out.fr).drew2⟩
   ·
    have t1 : decide ((48 : Int) ≤ (s[k].toNat : Int)) = false := decide_eq_false (by omega); have HN : Hid (numR (k - a) m ((bl s).drop k) = (k - a, m, (bl s).drop k)) := numR_no (fun _ e => by omega); clear hc; go_wp2; refine wp_region_held_drew (S := (fun w' => w'.cell? ⟨q, 0, none⟩ = some (.string s) ∧ w'.cell? ⟨q, 1, none⟩ = some (.int .i64 (k : Int)))) (by kernel_rfl) (by simp [go_sem, d0, d1]) (fun hS0 => ?_); refine tk 0 rfl ?_; refine tk 1 rfl ?_; refine tk 2 rfl ?_; refine tk 3 rfl ?_; refine tk 4 rfl ?_; refine tk 5 rfl ?_; refine tk 6 rfl ?_; refine tk 7 rfl ?_; refine tk 8 rfl ?_; refine tk 9 rfl ?_; refine tk 10 rfl ?_; refine tk 11 rfl ?_; refine tk 12 rfl ?_; refine tk 13 rfl ?_; refine tk 14 rfl ?_; refine tk 15 rfl ?_; refine tk 16 rfl ?_; refine tk 17 rfl ?_; refine tk 18 rfl ?_; refine tk 19 rfl ?_; refine tk 20 rfl ?_; refine tk 21 rfl ?_; refine tk 22 rfl ?_; refine tu 23 rfl ?_; refine tu 24 rfl ?_; refine tu 25 rfl ?_; refine tu 26 rfl ?_; refine tu 27 rfl ?_; refine tu 28 rfl ?_; refine tu 29 rfl ?_; refine tu 30 rfl ?_; refine tu 31 rfl ?_; refine tu 32 rfl ?_; refine tk 33 rfl ?_; refine tk 34 rfl ?_; refine tu 35 rfl ?_; refine tu 36 rfl ?_; refine tu 37 rfl ?_; refine tu 38 rfl ?_; refine tu 39 rfl ?_; refine tu 40 rfl ?_; refine tu 41 rfl ?_; refine tk 42 rfl ?_; refine tk 43 rfl ?_; refine tu 44 rfl ?_; refine tu 45 rfl ?_; refine tu 46 rfl ?_; refine tu 47 rfl ?_; refine tu 48 rfl ?_; refine tu 49 rfl ?_; refine tu 50 rfl ?_; refine tu 51 rfl ?_; refine tu 52 rfl ?_; refine tu 53 rfl ?_; refine tk 54 rfl ?_; refine wpAnyH_done (by kernel_rfl) ?_ _; go_simp; cases bad
    ·
     by_cases hka : k = a
     ·
      have tk : ((k : Int) == (a : Int)) = true := by subst hka; exact beq_self_eq_true _
      go_wp2; go_ret; exact ⟨k, m, h0, h1, HK.out.eq.trans HN.out, rfl, (box_set' HK.out.rd _).trans (by rw [show decide (k - a = 0) = true from decide_eq_true (by omega)]; rfl), (fr2 HK.out.fr).drew2⟩
     ·
      have tk : ((k : Int) == (a : Int)) = false := beq_eq_false_iff_ne.2 (by omega); go_wp2; go_ret; exact ⟨k, m, h0, h1, HK.out.eq.trans HN.out, rfl, (box_set' HK.out.rd _).trans (by rw [show decide (k - a = 0) = false from decide_eq_false (by omega)]; rfl), (fr2 HK.out.fr).drew2⟩
    ·
     go_wp2; go_ret; exact ⟨k, m, h0, h1, HK.out.eq.trans HN.out, rfl, (box_set' HK.out.rd _).trans rfl, (fr2 HK.out.fr).drew2⟩
  ·
   have HN : Hid (numR (k - a) m ((bl s).drop k) = (k - a, m, (bl s).drop k)) := numR_no (fun e => absurd e hlt); have t0 : decide ((k : Int) < (s.size : Int)) = false := decide_eq_false (by omega); go_wp2; refine wp_region_held_drew (S := (fun w' => w'.cell? ⟨q, 0, none⟩ = some (.string s) ∧ w'.cell? ⟨q, 1, none⟩ = some (.int .i64 (k : Int)))) (by kernel_rfl) (by simp [go_sem, d0, d1]) (fun hS0 => ?_); refine tk 0 rfl ?_; refine tk 1 rfl ?_; refine tk 2 rfl ?_; refine tk 3 rfl ?_; refine tk 4 rfl ?_; refine tk 5 rfl ?_; refine tk 6 rfl ?_; refine tk 7 rfl ?_; refine tk 8 rfl ?_; refine tk 9 rfl ?_; refine tk 10 rfl ?_; refine tu 11 rfl ?_; refine tu 12 rfl ?_; refine tu 13 rfl ?_; refine tu 14 rfl ?_; refine tu 15 rfl ?_; refine tu 16 rfl ?_; refine tu 17 rfl ?_; refine tu 18 rfl ?_; refine tu 19 rfl ?_; refine tu 20 rfl ?_; refine tk 21 rfl ?_; refine tk 22 rfl ?_; refine tu 23 rfl ?_; refine tu 24 rfl ?_; refine tu 25 rfl ?_; refine tu 26 rfl ?_; refine tu 27 rfl ?_; refine tu 28 rfl ?_; refine tu 29 rfl ?_; refine tu 30 rfl ?_; refine tu 31 rfl ?_; refine tu 32 rfl ?_; refine tk 33 rfl ?_; refine tk 34 rfl ?_; refine tu 35 rfl ?_; refine tu 36 rfl ?_; refine tu 37 rfl ?_; refine tu 38 rfl ?_; refine tu 39 rfl ?_; refine tu 40 rfl ?_; refine tu 41 rfl ?_; refine tk 42 rfl ?_; refine tk 43 rfl ?_; refine tu 44 rfl ?_; refine tu 45 rfl ?_; refine tu 46 rfl ?_; refine tu 47 rfl ?_; refine tu 48 rfl ?_; refine tu 49 rfl ?_; refine tu 50 rfl ?_; refine tu 51 rfl ?_; refine tu 52 rfl ?_; refine tu 53 rfl ?_; refine tk 54 rfl ?_; refine wpAnyH_done (by kernel_rfl) ?_ _; go_simp; cases bad
   ·
    by_cases hka : k = a
    ·
     have tk : ((k : Int) == (a : Int)) = true := by subst hka; exact beq_self_eq_true _
     go_wp2; go_ret; exact ⟨k, m, h0, h1, HK.out.eq.trans HN.out, rfl, (box_set' HK.out.rd _).trans (by rw [show decide (k - a = 0) = true from decide_eq_true (by omega)]; rfl), (fr2 HK.out.fr).drew2⟩
    ·
     have tk : ((k : Int) == (a : Int)) = false := beq_eq_false_iff_ne.2 (by omega); go_wp2; go_ret; exact ⟨k, m, h0, h1, HK.out.eq.trans HN.out, rfl, (box_set' HK.out.rd _).trans (by rw [show decide (k - a = 0) = false from decide_eq_false (by omega)]; rfl), (fr2 HK.out.fr).drew2⟩
   ·
    go_wp2; go_ret; exact ⟨k, m, h0, h1, HK.out.eq.trans HN.out, rfl, (box_set' HK.out.rd _).trans rfl, (fr2 HK.out.fr).drew2⟩
end Go.Proofs.YtdlaekjofgbjcaaGreatDoor
