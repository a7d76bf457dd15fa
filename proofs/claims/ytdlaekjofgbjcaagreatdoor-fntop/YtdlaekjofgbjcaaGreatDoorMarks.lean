/-
 The contract of impl.anyMarked. Mine, by template (wip/gen.py).
-/
import Derived.Test.YtdlaekjofgbjcaaGreatDoorTextZ
namespace Go.Proofs.YtdlaekjofgbjcaaGreatDoor
open Go.RowKit
def MarkedTo (bs : List Bool) (x : Ord) (k : Nat) : Prop := ∃ q, q < k ∧ bs.getD (sV x q).toNat false = true
def Marked (bs : List Bool) (x : Ord) : Prop := MarkedTo bs x x.secs.length
set_option maxHeartbeats 1000000 in
theorem anyMarked_any (ac sa : Option Addr) (cc sc : Nat) (bs : List Bool) (x : Ord) (w : World) (hn : x.secs.length ≤ 4294967296) (hV : ∀ k, k < x.secs.length → 0 ≤ sV x k ∧ sV x k < bs.length) (G1 : Cells w ac bs.length (bV bs)) (G2 : Cells w sa x.secs.length (iV x.secs)) :
  Calls Tryz.prog 99 #[.slice ac bs.length cc, .slice sa x.secs.length sc] w fun e w' => RetB e (Marked bs x) ∧ w' = w := by
 obtain ⟨b1, o1, d1, g1⟩ := G1; obtain ⟨b2, o2, d2, g2⟩ := G2
 go_enter Tryz.func99, Tryz.ntmps99
 go_wp2
 go_loop [9] (fun i => ∃ k : Nat, k ≤ x.secs.length ∧ i = .int .i64 k ∧ ¬ MarkedTo bs x k) (fun i => x.secs.length - (intOf i).toNat)
 case atStart => exact ⟨0, Nat.zero_le _, rfl, fun ⟨q, h, _⟩ => absurd h (by omega)⟩
 case round =>
  obtain ⟨k, hk, rfl, hall⟩ := hrel; have HA : Hid (¬ MarkedTo bs x k) := hall; clear hall
  by_cases hlt : k < x.secs.length
  ·
   obtain rfl := d2 (by omega); have hL := hV k hlt; obtain ⟨m, hm⟩ : ∃ m : Nat, sV x k = (m : Int) := ⟨(sV x k).toNat, by omega⟩; have hm2 : m < bs.length := by omega
   obtain rfl := d1 (by omega); have e1 : w.cell? ⟨b2, o2 + k, none⟩ = some (.int .i64 (m : Int)) := by rw [← hm]; exact g2 k hlt
   have HM : Hid (sV x k = (m : Int)) := hm; clear g2 d2 hL hm hV d1; cases ho : bs.getD m false with
   | true =>
    have e2 : w.cell? ⟨b1, o1 + m, none⟩ = some (.bool true) := by rw [← ho]; exact g1 m hm2
    have HO : Hid (MarkedTo bs x x.secs.length) := ⟨k, hlt, by rw [HM.out]; exact ho⟩; clear g1 ho; go_wp2; go_ret; exact ⟨RetB.t HO.out, rfl⟩
   | false =>
    have e2 : w.cell? ⟨b1, o1 + m, none⟩ = some (.bool false) := by rw [← ho]; exact g1 m hm2
    have HO : Hid (¬ MarkedTo bs x (k + 1)) := fun ⟨q, h1, h2⟩ => by
     by_cases c : q = k
     ·
      subst c; rw [HM.out] at h2; have h3 : bs.getD m false = true := h2; rw [ho] at h3; cases h3
     · exact HA.out ⟨q, by omega, h2⟩
    clear g1 ho; go_wp2
    go_round
    case rel => exact ⟨k + 1, by omega, by go_num, HO.out⟩
    case measure => simp [intOf]; omega
  ·
   obtain rfl : k = x.secs.length := by omega
   clear g1 d1 g2 d2 hV; go_wp2; go_ret; exact ⟨RetB.f HA.out, rfl⟩
end Go.Proofs.YtdlaekjofgbjcaaGreatDoor
