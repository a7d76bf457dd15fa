/-
  The contracts of laws.markIntS, markBoolS, markText, markOrderS, markBook: what owns its memory is overwritten, nothing else. Mine, by template (wip/gen.py).
-/
import Derived.Test.YtbgmgfnhmlpehabGreatDoorFr
import Derived.Test.YtbgmgfnhmlpehabGreatDoorDec
namespace Go.Proofs.YtbgmgfnhmlpehabGreatDoor
open Go.RowKit

set_option maxHeartbeats 400000 in
theorem markIntS_any (ad : Option Addr) (c n g : Nat) (f : Nat → Value) (k : Int) (w : World) (h0 : 0 ≤ k) (h1 : k + n ≤ 4611686018427387904) (hd : 0 < n → ad = some ⟨g, 0, none⟩) (hr : 0 < n → Pre w g 3 n f) :
    Calls Tryz.prog 48 #[.slice ad n c, .int .i64 k] w fun e w' => e = .returned (.int .i64 (k + n)) ∧ (0 < n → Pre w' g 3 n (fun i => .int .i64 (k + i))) ∧ Fr (fun b => 0 < n ∧ b = g) w w' := by
  go_enter Tryz.func48, Tryz.ntmps48
  go_wp2
  go_loopw [1, 5] (fun q i wr => ∃ j : Nat, j ≤ n ∧ i = .int .i64 j ∧ q = .int .i64 (k + j) ∧ (0 < n → Pre wr g 3 n (fun i => if i < j then .int .i64 (k + i) else f i)) ∧ Fr (fun b => 0 < n ∧ b = g) w wr) (fun _ i _ => n - (intOf i).toNat)
  case atStart => exact ⟨0, Nat.zero_le _, rfl, by simp, fun hp => (hr hp).congr (fun i _ => by simp), Fr.refl _ _⟩
  case round =>
    obtain ⟨j, hj, rfl, rfl, hrow, hfr⟩ := hrel
    by_cases hlt : j < n
    · obtain rfl := hd (by omega)
      have hrw := hrow (by omega)
      have e1 := hrw.cell hlt
      have e2 := hrw.frozen j
      clear hrow hd hr
      go_wp2
      go_roundw
      case rel =>
        refine ⟨j + 1, by omega, by go_num, by go_num, fun _ => (hrw.set j _).congr (fun i _ => ?_), hfr.setCell ⟨by omega, rfl⟩ _⟩
        by_cases ei : i = j
        · subst ei; simp
        · rw [if_neg ei]
          by_cases hij : i < j
          · rw [if_pos hij, if_pos (by omega)]
          · rw [if_neg hij, if_neg (by omega)]
      case measure => simp [intOf]; omega
    · obtain rfl : j = n := by omega
      have HR : Hid (0 < j → Pre wr g 3 j (fun i => if i < j then .int .i64 (k + i) else f i)) := hrow
      clear hrow hd hr
      go_wp2
      go_ret
      exact ⟨rfl, fun hp => (HR.out hp).congr (fun i hi => by rw [if_pos hi]), hfr⟩

/-- What a flag is marked with. -/
def mb (k : Int) : Bool := k % 3 == 0

set_option maxHeartbeats 400000 in
theorem markBoolS_any (ad : Option Addr) (c n g : Nat) (f : Nat → Value) (k : Int) (w : World) (h0 : 0 ≤ k) (h1 : k + n ≤ 4611686018427387904) (hd : 0 < n → ad = some ⟨g, 0, none⟩) (hr : 0 < n → Pre w g 4 n f) :
    Calls Tryz.prog 47 #[.slice ad n c, .int .i64 k] w fun e w' => e = .returned (.int .i64 (k + n)) ∧ (0 < n → Pre w' g 4 n (fun i => .bool (mb (k + i)))) ∧ Fr (fun b => 0 < n ∧ b = g) w w' := by
  go_enter Tryz.func47, Tryz.ntmps47
  go_wp2
  go_loopw [1, 5] (fun q i wr => ∃ j : Nat, j ≤ n ∧ i = .int .i64 j ∧ q = .int .i64 (k + j) ∧ (0 < n → Pre wr g 4 n (fun i => if i < j then .bool (mb (k + i)) else f i)) ∧ Fr (fun b => 0 < n ∧ b = g) w wr) (fun _ i _ => n - (intOf i).toNat)
  case atStart => exact ⟨0, Nat.zero_le _, rfl, by simp, fun hp => (hr hp).congr (fun i _ => by simp), Fr.refl _ _⟩
  case round =>
    obtain ⟨j, hj, rfl, rfl, hrow, hfr⟩ := hrel
    by_cases hlt : j < n
    · obtain rfl := hd (by omega)
      have hrw := hrow (by omega)
      have e1 := hrw.cell hlt
      have e2 := hrw.frozen j
      clear hrow hd hr
      go_wp2
      go_roundw
      case rel =>
        refine ⟨j + 1, by omega, by go_num, by go_num, fun _ => (hrw.set j _).congr (fun i _ => ?_), hfr.setCell ⟨by omega, rfl⟩ _⟩
        by_cases ei : i = j
        · subst ei; simp [mb]
        · rw [if_neg ei]
          by_cases hij : i < j
          · rw [if_pos hij, if_pos (by omega)]
          · rw [if_neg hij, if_neg (by omega)]
      case measure => simp [intOf]; omega
    · obtain rfl : j = n := by omega
      have HR : Hid (0 < j → Pre wr g 4 j (fun i => if i < j then .bool (mb (k + i)) else f i)) := hrow
      clear hrow hd hr
      go_wp2
      go_ret
      exact ⟨rfl, fun hp => (HR.out hp).congr (fun i hi => by rw [if_pos hi]), hfr⟩

set_option maxHeartbeats 400000 in
theorem markText_any (k : Nat) (w : World) (h1 : 0 < k) (h2 : k ≤ 4611686018427387904) :
    Calls Tryz.prog 55 #[.int .i64 k] w fun e w' => e = .returned (.string ⟨(109 :: decF k k []).toArray⟩) ∧ Below w.heap.size w w' := by
  have hne : ((k : Int) ≤ 0) = False := by simp; omega
  go_enter Tryz.func55, Tryz.ntmps55
  go_wp2
  clear hne
  go_loopw [0, 3] (fun q s wr => ∃ (n f : Nat) (l : List UInt8), q = .int .i64 n ∧ n ≤ 4611686018427387904 ∧ n ≤ f ∧ s = .string ⟨l.toArray⟩ ∧ l.length + n ≤ 4611686018427387904 ∧ decF f n l = decF k k [] ∧ Below w.heap.size w wr) (fun q _ _ => (intOf q).toNat)
  case atStart => exact ⟨k, k, [], rfl, h2, Nat.le_refl _, rfl, by simpa using h2, rfl, Below.refl _ _⟩
  case round =>
    obtain ⟨n, f, l, rfl, hn, hf, rfl, hl, hd, hb⟩ := hrel
    have HD : Hid (decF f n l = decF k k []) := hd
    clear hd
    by_cases hz : 0 < n
    · have hcv := conv_digit n
      have hsz : (ByteArray.mk #[dig n]).size + (ByteArray.mk l.toArray).size ≤ 9223372036854775807 := by simp [ByteArray.size]; omega
      have hadd := fun W => run_string_add_sum (P := Tryz.prog) W _ _ hsz
      have hcb := cons_bytes (dig n) l
      go_wp2
      go_roundw
      case rel =>
        refine ⟨n / 10, f - 1, dig n :: l, by go_num, by omega, by omega, ?_, by simp; omega, ?_, hb.alloc hb.size _⟩
        · rfl
        · rw [← HD.out]
          obtain ⟨f', rfl⟩ : ∃ f', f = f' + 1 := ⟨f - 1, by omega⟩
          simp only [Nat.add_sub_cancel]
          rw [show decF (f' + 1) n l = decF f' (n / 10) (dig n :: l) from by rw [decF]; rw [if_neg (by omega)]]
      case measure => simp [intOf]; omega
    · have hsz : (ByteArray.mk #[109]).size + (ByteArray.mk l.toArray).size ≤ 9223372036854775807 := by simp [ByteArray.size]; omega
      go_wp2
      go_ret
      refine ⟨?_, hb⟩
      obtain rfl : n = 0 := by omega
      have e := HD.out
      rw [decF_zero] at e
      rw [← e, ← cons_bytes]
      rfl

end Go.Proofs.YtbgmgfnhmlpehabGreatDoor
