/-
 The contracts of spec's reader: (*l3R).take, num. Mine, by program (wip/hear2.py), by template (wip/gen.py).
-/
import Derived.Test.YtdlaekjofgbjcaaGreatDoorBaseZ
import Derived.Test.YtdlaekjofgbjcaaGreatDoorHearC
namespace Go.Proofs.YtdlaekjofgbjcaaGreatDoor
open Go.RowKit
def Stands (s t : ByteArray) (a : Nat) : Prop := a + t.size ≤ s.size ∧ s.extract a (a + t.size) = t
theorem wrap_small {x : Int} (h : 0 ≤ x ∧ x ≤ 9223372036854775807) : IntKind.i64.wrap x = x := by
 simp [IntKind.wrap, IntKind.signed, IntKind.bits]; omega
theorem strEq1_t {a b : ByteArray} (h : a = b) : (a.toList == b.toList) = true := by subst h; exact beq_self_eq_true _
theorem toList_inj {a b : ByteArray} (h : a.toList = b.toList) : a = b := by
 rw [ByteArray.toList_eq, ByteArray.toList_eq] at h; exact bl_inj h
theorem strEq1_f {a b : ByteArray} (h : ¬ a = b) : (a.toList == b.toList) = false := by
 rw [beq_eq_false_iff_ne]; intro e; exact h (toList_inj e)
set_option maxRecDepth 20000 in
set_option maxHeartbeats 4000000 in
theorem take_any (q : Nat) (s t : ByteArray) (a : Nat) (bad : Bool) (w : World) (hs : s.size ≤ 4294967296) (ht : t.size ≤ 100) (ha : a ≤ s.size) (h : RdAt w q s a bad) :
  Calls Tryz.prog 46 #[.pointer (some ⟨q, 0, none⟩), .string t] w fun e w' => e = .returned (.tuple #[]) ∧ ((Stands s t a ∧ RdAt w' q s (a + t.size) bad) ∨ (¬ Stands s t a ∧ RdAt w' q s a true)) ∧ Fr (fun x => x = q) w w' := by
 have HR : Hid (RdAt w q s a bad) := h; obtain ⟨c0, c1, c2⟩ := rd_cells h; have f1 := rd_frozen h 1; have f2 := rd_frozen h 2; clear h; have toN : ((a : Int) + (t.size : Int)).toNat = a + t.size := by omega
 have hw := wrap_small (x := (a : Int) + (t.size : Int)) ⟨by omega, by omega⟩
 go_enter Tryz.func46, Tryz.ntmps46
 by_cases hgt : (s.size : Int) < (a : Int) + (t.size : Int)
 ·
  have tg : decide ((s.size : Int) < (a : Int) + (t.size : Int)) = true := decide_eq_true hgt; have HN : Hid (¬ Stands s t a) := fun q => by have := q.1; omega
  clear hgt toN; go_wp2; refine wp_region_held_drew (S := (fun w' => w'.cell? ⟨q, 0, none⟩ = some (.string s) ∧ w'.cell? ⟨q, 1, none⟩ = some (.int .i64 (a : Int)))) (by kernel_rfl) (by simp [go_sem, c0, c1]) (fun hS0 => ?_); refine tk 0 rfl ?_; refine tk 1 rfl ?_; refine tk 2 rfl ?_; refine tk 3 rfl ?_; refine tk 4 rfl ?_; refine tk 5 rfl ?_; refine tk 6 rfl ?_; refine tk 7 rfl ?_; refine tk 8 rfl ?_; refine tk 9 rfl ?_; refine tk 10 rfl ?_; refine tk 11 rfl ?_; refine tk 12 rfl ?_; refine tk 13 rfl ?_; refine tu 14 rfl ?_; refine tu 15 rfl ?_; refine tu 16 rfl ?_; refine tu 17 rfl ?_; refine tu 18 rfl ?_; refine tu 19 rfl ?_; refine tu 20 rfl ?_; refine tu 21 rfl ?_; refine tu 22 rfl ?_; refine tu 23 rfl ?_; refine tu 24 rfl ?_; refine tu 25 rfl ?_; refine tu 26 rfl ?_; refine tu 27 rfl ?_; refine tu 28 rfl ?_; refine tu 29 rfl ?_; refine tu 30 rfl ?_; refine tu 31 rfl ?_; refine tk 32 rfl ?_; refine wpAnyH_done (by kernel_rfl) ?_ _; go_simp; go_wp2; refine bodyPost_ret (v := .tuple #[]) (by simp [results, Tryz.results46, go_sem]) rfl ?_; exact ⟨rfl, Or.inr ⟨HN.out, (box_set' HR.out _).trans rfl⟩, (fr2 (Fr.refl _ _)).drew2⟩
 ·
  have tg : decide ((s.size : Int) < (a : Int) + (t.size : Int)) = false := decide_eq_false hgt; have b0 : (0 : Int) ≤ (a : Int) := by omega
  have b1 : (a : Int) ≤ (a : Int) + (t.size : Int) := by omega
  have b2 : (a : Int) + (t.size : Int) ≤ (s.size : Int) := by omega
  by_cases hq : s.extract a (a + t.size) = t
  ·
   have tq' : ((s.extract a ((a : Int) + (t.size : Int)).toNat).toList == t.toList) = true := by rw [toN]; exact strEq1_t hq
   have HN : Hid (Stands s t a) := ⟨by omega, hq⟩; clear hq hgt toN; go_wp2; refine wp_region_held_drew (S := (fun w' => w'.cell? ⟨q, 0, none⟩ = some (.string s) ∧ w'.cell? ⟨q, 1, none⟩ = some (.int .i64 (a : Int)))) (by kernel_rfl) (by simp [go_sem, c0, c1]) (fun hS0 => ?_); refine tk 0 rfl ?_; refine tk 1 rfl ?_; refine tk 2 rfl ?_; refine tk 3 rfl ?_; refine tk 4 rfl ?_; refine tk 5 rfl ?_; refine tk 6 rfl ?_; refine tk 7 rfl ?_; refine tk 8 rfl ?_; refine tk 9 rfl ?_; refine tk 10 rfl ?_; refine tk 11 rfl ?_; refine tk 12 rfl ?_; refine tk 13 rfl ?_; refine tk 14 rfl ?_; refine tk 15 rfl ?_; refine tk 16 rfl ?_; refine tk 17 rfl ?_; refine tk 18 rfl ?_; refine tk 19 rfl ?_; refine tk 20 rfl ?_; refine tk 21 rfl ?_; refine tk 22 rfl ?_; refine tk 23 rfl ?_; refine tk 24 rfl ?_; refine tk 25 rfl ?_; refine tk 26 rfl ?_; refine tk 27 rfl ?_; refine tk 28 rfl ?_; refine tk 29 rfl ?_; refine tk 30 rfl ?_; refine tk 31 rfl ?_; refine tk 32 rfl ?_; refine wpAnyH_done (by kernel_rfl) ?_ _; go_simp; go_wp2
   go_end0
   exact ⟨rfl, Or.inl ⟨HN.out, (box_set' HR.out _).trans (by simp)⟩, (fr2 (Fr.refl _ _)).drew2⟩
  ·
   have tq' : ((s.extract a ((a : Int) + (t.size : Int)).toNat).toList == t.toList) = false := by rw [toN]; exact strEq1_f hq
   have HN : Hid (¬ Stands s t a) := fun e => hq e.2; clear hq hgt toN; go_wp2; refine wp_region_held_drew (S := (fun w' => w'.cell? ⟨q, 0, none⟩ = some (.string s) ∧ w'.cell? ⟨q, 1, none⟩ = some (.int .i64 (a : Int)))) (by kernel_rfl) (by simp [go_sem, c0, c1]) (fun hS0 => ?_); refine tk 0 rfl ?_; refine tk 1 rfl ?_; refine tk 2 rfl ?_; refine tk 3 rfl ?_; refine tk 4 rfl ?_; refine tk 5 rfl ?_; refine tk 6 rfl ?_; refine tk 7 rfl ?_; refine tk 8 rfl ?_; refine tk 9 rfl ?_; refine tk 10 rfl ?_; refine tk 11 rfl ?_; refine tk 12 rfl ?_; refine tk 13 rfl ?_; refine tk 14 rfl ?_; refine tk 15 rfl ?_; refine tk 16 rfl ?_; refine tk 17 rfl ?_; refine tk 18 rfl ?_; refine tk 19 rfl ?_; refine tk 20 rfl ?_; refine tk 21 rfl ?_; refine tk 22 rfl ?_; refine tk 23 rfl ?_; refine tk 24 rfl ?_; refine tk 25 rfl ?_; refine tk 26 rfl ?_; refine tk 27 rfl ?_; refine tk 28 rfl ?_; refine tk 29 rfl ?_; refine tk 30 rfl ?_; refine tk 31 rfl ?_; refine tk 32 rfl ?_; refine wpAnyH_done (by kernel_rfl) ?_ _; go_simp; go_wp2; refine bodyPost_ret (v := .tuple #[]) (by simp [results, Tryz.results46, go_sem]) rfl ?_; exact ⟨rfl, Or.inr ⟨HN.out, (box_set' HR.out _).trans rfl⟩, (fr2 (Fr.refl _ _)).drew2⟩
end Go.Proofs.YtdlaekjofgbjcaaGreatDoor
