/-
  Decimal digits. Mine, by template (wip/gen.py).
-/
import Derived.Test.YtdlaekjofgbjcaaGreatDoorBaseZ
import Derived.Lib.ItoaNum
namespace Go.Proofs.YtdlaekjofgbjcaaGreatDoor
open Go.RowKit
def dig (n : Nat) : UInt8 := UInt8.ofNat (48 + n % 10)
def decF : Nat → Nat → List UInt8 → List UInt8
  | 0, _, acc => acc
  | f + 1, n, acc => if n = 0 then acc else decF f (n / 10) (dig n :: acc)
theorem conv_digit (n : Nat) (w : World) : Sem.run Tryz.prog (convert 22 9 (.slice (some ⟨w.heap.size, 0, none⟩) 1 1)) (w.alloc (.cells #[.int .u8 (48 + (n : Int) % 10)] 5)) =
    .ok (.string ⟨#[dig n]⟩) (w.alloc (.cells #[.int .u8 (48 + (n : Int) % 10)] 5)) := by
  have h := run_convert_bytes_back (P := Tryz.prog) (w.alloc (.cells #[.int .u8 (48 + (n : Int) % 10)] 5)) 22 9 5 ⟨w.heap.size, 0, none⟩ 1 [UInt8.ofNat (48 + n % 10)] Tryz.underlying22 Tryz.underlying5 Tryz.underlying9 (fun j hj => by
    obtain rfl : j = 0 := by simp at hj; omega
    have e : (UInt8.ofNat (48 + n % 10)).toNat = 48 + n % 10 := by rw [UInt8.toNat_ofNat']; omega
    have e2 : ((UInt8.ofNat (48 + n % 10)).toNat : Int) = 48 + (n : Int) % 10 := by rw [e]; omega
    show (w.alloc _).cell? ⟨w.heap.size, 0, none⟩ = some (.int .u8 ((UInt8.ofNat (48 + n % 10)).toNat : Int))
    rw [e2]; simp [go_sem])
  exact h
theorem cons_bytes (d : UInt8) (l : List UInt8) : (⟨#[d]⟩ ++ ⟨l.toArray⟩ : ByteArray) = ⟨(d :: l).toArray⟩ := by
  rw [ByteArray.mk_append_mk]; simp
theorem decF_zero (f : Nat) (l : List UInt8) : decF f 0 l = l := by cases f <;> simp [decF]
theorem decF_eq : ∀ (f n : Nat) (acc : List UInt8), 0 < n → n ≤ f → decF f n acc = Lib.decDigits n ++ acc := by
  intro f
  induction f with
  | zero => intro n acc h1 h2; omega
  | succ f ih =>
    intro n acc h1 h2
    rw [decF, if_neg (by omega), Lib.decDigits]
    by_cases h : n < 10
    · rw [dif_pos h, show n / 10 = 0 by omega, decF_zero]
      simp [dig, show n % 10 = n by omega]
    · rw [dif_neg h, ih _ _ (by omega) (by omega)]
      simp [dig]
end Go.Proofs.YtdlaekjofgbjcaaGreatDoor