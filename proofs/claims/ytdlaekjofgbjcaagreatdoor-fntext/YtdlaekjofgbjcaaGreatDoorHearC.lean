/-
 The contracts of spec's reader: (*l3R).word. Mine, by template (wip/gen.py).
-/
import Derived.Test.YtdlaekjofgbjcaaGreatDoorHearA
import Derived.Test.YtdlaekjofgbjcaaGreatDoorBaseZ
import Derived.Test.YtdlaekjofgbjcaaGreatDoorOkZ
import Derived.Deep.RegionHeld3
namespace Go.Proofs.YtdlaekjofgbjcaaGreatDoor
open Go.RowKit
def RdAt (w : World) (q : Nat) (s : ByteArray) (a : Nat) (bad : Bool) : Prop := w.heap[q]? = some (.cells #[.string s, .int .i64 (a : Int), .bool bad] 88 (0, 0))
theorem rd_cells {w : World} {q : Nat} {s : ByteArray} {a : Nat} {bad : Bool} (h : RdAt w q s a bad) : w.cell? ⟨q, 0, none⟩ = some (.string s) ∧ w.cell? ⟨q, 1, none⟩ = some (.int .i64 (a : Int)) ∧ w.cell? ⟨q, 2, none⟩ = some (.bool bad) := by
 unfold RdAt at h; simp [World.cell?, h]
theorem rd_frozen {w : World} {q : Nat} {s : ByteArray} {a : Nat} {bad : Bool} (h : RdAt w q s a bad) (i : Nat) : w.frozen? ⟨q, i, none⟩ = false := by
 unfold RdAt at h; simp [World.frozen?, h]
def rdPos (w : World) (q : Nat) : Nat := match w.cell? ⟨q, 1, none⟩ with
 | some (.int _ z) => z.toNat
 | _ => 0
theorem rdPos_of {w : World} {q : Nat} {s : ByteArray} {a : Nat} {bad : Bool} (h : RdAt w q s a bad) : rdPos w q = a := by
 unfold rdPos; rw [(rd_cells h).2.1]; simp
theorem box_set' {w : World} {p i : Nat} {c : Array Value} {t : TypeId} (h : w.heap[p]? = some (.cells c t (0, 0))) (u : Value) : (w.setCell ⟨p, i, none⟩ u).heap[p]? = some (.cells (c.setIfInBounds i u) t (0, 0)) := by
 simp [World.setCell, Array.getElem?_modify, h]
theorem fr2 {a w : World} {P i : Nat} {u : Value} (h : Fr (fun x => x = P) a w) : Fr (fun x => x = P) a (w.setCell ⟨P, i, none⟩ u) := h.setCell (p := ⟨P, i, none⟩) rfl _
theorem Fr.drew2 {S : Nat → Prop} {a w : World} (h : Fr S a w) : Fr S a w.drew := h.trans (Fr.of_below (Below.refl _ _).drew)
def lowN (x : Nat) : Prop := 97 ≤ x ∧ x ≤ 122
set_option maxRecDepth 20000 in
set_option maxHeartbeats 4000000 in
theorem word_any (q : Nat) (s : ByteArray) (a : Nat) (bad : Bool) (w : World) (hs : s.size ≤ 4294967296) (ha : a ≤ s.size) (h : RdAt w q s a bad) :
  Calls Tryz.prog 45 #[.pointer (some ⟨q, 0, none⟩)] w fun e w' => ∃ k, a ≤ k ∧ k ≤ s.size ∧ (∀ j, a ≤ j → j < k → lowN (chr s j)) ∧ (k < s.size → ¬ lowN (chr s k)) ∧ e = .returned (.string (s.extract a k)) ∧ RdAt w' q s k bad ∧ Fr (fun x => x = q) w w' := by
 have HR : Hid (RdAt w q s a bad) := h; obtain ⟨c0, c1, c2⟩ := rd_cells h; clear h
 go_enter Tryz.func45, Tryz.ntmps45
 go_wp2
 go_loopw [] (fun wr => ∃ k, a ≤ k ∧ k ≤ s.size ∧ (∀ j, a ≤ j → j < k → lowN (chr s j)) ∧ RdAt wr q s k bad ∧ Fr (fun x => x = q) w wr) (fun wr => s.size - rdPos wr q)
 case atStart => exact ⟨a, Nat.le_refl _, ha, fun j h1 h2 => absurd h2 (by omega), HR.out, Fr.refl _ _⟩
 case round =>
  obtain ⟨k, h1, h2, h3, h4, h5⟩ := hrel; have HK : Hid ((∀ j, a ≤ j → j < k → lowN (chr s j)) ∧ RdAt wr q s k bad ∧ Fr (fun x => x = q) w wr) := ⟨h3, h4, h5⟩; obtain ⟨d0, d1, d2⟩ := rd_cells h4; have f1 := rd_frozen h4 1; clear h3 h4 h5 c0 c1 c2
  by_cases hlt : k < s.size
  ·
   have hc := chr_eq s k hlt
   by_cases l1 : 97 ≤ chr s k
   ·
    have t1 : decide ((97 : Int) ≤ (s[k].toNat : Int)) = true := decide_eq_true (by omega)
    by_cases l2 : chr s k ≤ 122
    ·
     have t2 : decide ((s[k].toNat : Int) ≤ 122) = true := decide_eq_true (by omega); have HL : Hid (lowN (chr s k)) := ⟨l1, l2⟩; clear hc l1 l2; go_wp2; go_region; go_wp2; go_roundw
     case rel => exact ⟨k + 1, by omega, by omega, fun j j1 j2 => by
      by_cases e : j = k
      · subst e; exact HL.out
      · exact HK.out.1 j j1 (by omega), (box_set' HK.out.2.1 _).trans rfl, (fr2 HK.out.2.2).drew2⟩
     case measure =>
      rw [rdPos_of HK.out.2.1]; have e : RdAt (wr.setCell ⟨q, 1, none⟩ (.int .i64 ((k : Int) + 1))).drew q s (k + 1) bad := (box_set' HK.out.2.1 _).trans rfl; rw [rdPos_of e]; omega
    ·
     have t2 : decide ((s[k].toNat : Int) ≤ 122) = false := decide_eq_false (by omega); have HL : Hid (¬ lowN (chr s k)) := fun q => l2 q.2; clear hc l1 l2; go_wp2; go_region; go_wp2; go_region; go_wp2; go_ret; exact ⟨k, h1, h2, HK.out.1, fun _ => HL.out, rfl, HK.out.2.1, HK.out.2.2.drew2.drew2⟩
   ·
    have t1 : decide ((97 : Int) ≤ (s[k].toNat : Int)) = false := decide_eq_false (by omega); have HL : Hid (¬ lowN (chr s k)) := fun q => l1 q.1; clear hc l1; go_wp2; go_region; go_wp2; go_region; go_wp2; go_ret; exact ⟨k, h1, h2, HK.out.1, fun _ => HL.out, rfl, HK.out.2.1, HK.out.2.2.drew2.drew2⟩
  ·
   obtain rfl : k = s.size := by omega
   go_wp2; go_region; go_wp2; go_region; go_wp2; go_ret; exact ⟨s.size, h1, h2, HK.out.1, fun e => absurd e (by omega), rfl, HK.out.2.1, HK.out.2.2.drew2.drew2⟩
end Go.Proofs.YtdlaekjofgbjcaaGreatDoor
