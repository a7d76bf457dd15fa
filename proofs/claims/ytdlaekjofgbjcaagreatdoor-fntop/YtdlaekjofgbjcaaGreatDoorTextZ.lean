import Derived.Test.YtdlaekjofgbjcaaGreatDoorSBook
import Derived.Test.YtdlaekjofgbjcaaGreatDoorBaseZ
import Derived.Lib.ItoaNum
import Derived.Deep.RegionHeld3
/-
 A book that is right. Mine, by template (wip/gen.py).
-/
namespace Go.Proofs.YtdlaekjofgbjcaaGreatDoor
open Go.RowKit
def Right (B : Bk) : Prop := SizesOk B ∧ AllOrd B ∧ NoClash B ∧ NoLock B
theorem BCode.right {B : Bk} {c : Int} (h : BCode B c) : (c = 0 ↔ Right B) := by
 unfold BCode at h; unfold Right; rcases h with h | h | h | h | h
 · exact ⟨fun e => by omega, fun r => absurd r.1 h.1⟩
 · exact ⟨fun e => by omega, fun r => absurd r.2.1 h.2.1⟩
 · exact ⟨fun e => by omega, fun r => absurd r.2.2.1 h.2.2.1⟩
 · exact ⟨fun e => by omega, fun r => absurd r.2.2.2 h.2.2.2.1⟩
 · exact ⟨fun _ => ⟨h.1, h.2.1, h.2.2.1, h.2.2.2.1⟩, fun _ => h.2.2.2.2⟩
end Go.Proofs.YtdlaekjofgbjcaaGreatDoor
/-
 Decimal digits. Mine, by template (wip/gen.py).
-/
namespace Go.Proofs.YtdlaekjofgbjcaaGreatDoor
open Go.RowKit
def dig (n : Nat) : UInt8 := UInt8.ofNat (48 + n % 10)
def decF : Nat → Nat → List UInt8 → List UInt8
 | 0, _, acc => acc
 | f + 1, n, acc => if n = 0 then acc else decF f (n / 10) (dig n :: acc)
theorem conv_digit (n : Nat) (w : World) : Sem.run Tryz.prog (convert 22 9 (.slice (some ⟨w.heap.size, 0, none⟩) 1 1)) (w.alloc (.cells #[.int .u8 (48 + (n : Int) % 10)] 5)) =
  .ok (.string ⟨#[dig n]⟩) (w.alloc (.cells #[.int .u8 (48 + (n : Int) % 10)] 5)) := by
 have h := run_convert_bytes_back (P := Tryz.prog) (w.alloc (.cells #[.int .u8 (48 + (n : Int) % 10)] 5)) 22 9 5 ⟨w.heap.size, 0, none⟩ 1 [UInt8.ofNat (48 + n % 10)] Tryz.underlying22 Tryz.underlying5 Tryz.underlying9 (fun j hj => by
  obtain rfl : j = 0 := by simp at hj; omega
  have e : (UInt8.ofNat (48 + n % 10)).toNat = 48 + n % 10 := by rw [UInt8.toNat_ofNat']; omega
  have e2 : ((UInt8.ofNat (48 + n % 10)).toNat : Int) = 48 + (n : Int) % 10 := by rw [e]; omega
  show (w.alloc _).cell? ⟨w.heap.size, 0, none⟩ = some (.int .u8 ((UInt8.ofNat (48 + n % 10)).toNat : Int))
  rw [e2]; simp [go_sem])
 exact h
theorem cons_bytes (d : UInt8) (l : List UInt8) : (⟨#[d]⟩ ++ ⟨l.toArray⟩ : ByteArray) = ⟨(d :: l).toArray⟩ := by
 rw [ByteArray.mk_append_mk]; simp
theorem decF_zero (f : Nat) (l : List UInt8) : decF f 0 l = l := by cases f <;> simp [decF]
theorem decF_eq : ∀ (f n : Nat) (acc : List UInt8), 0 < n → n ≤ f → decF f n acc = Lib.decDigits n ++ acc := by
 intro f
 induction f with
 | zero => intro n acc h1 h2; omega
 | succ f ih =>
  intro n acc h1 h2; rw [decF, if_neg (by omega), Lib.decDigits]
  by_cases h : n < 10
  ·
   rw [dif_pos h, show n / 10 = 0 by omega, decF_zero]; simp [dig, show n % 10 = n by omega]
  ·
   rw [dif_neg h, ih _ _ (by omega) (by omega)]; simp [dig]
end Go.Proofs.YtdlaekjofgbjcaaGreatDoor
/-
 The text of an order; the contracts of spec.l1decimal, spec.l1text, spec.OrderText. Mine, by template (wip/gen.py).
-/
namespace Go.Proofs.YtdlaekjofgbjcaaGreatDoor
open Go.RowKit
def bl (s : ByteArray) : List UInt8 := s.data.toList
theorem bl_append (a b : ByteArray) : bl (a ++ b) = bl a ++ bl b := by simp [bl, ByteArray.data_append]
theorem bl_size (s : ByteArray) : (bl s).length = s.size := by simp [bl]
theorem bl_mk (l : List UInt8) : bl ⟨l.toArray⟩ = l := by simp [bl]
theorem bl_inj {a b : ByteArray} (h : bl a = bl b) : a = b := by
 apply ByteArray.ext; apply Array.ext'; exact h
def RetD (e : Ending) (n : Nat) : Prop := ∃ d, e = .returned (.string d) ∧ bl d = Lib.decDigits n
theorem dec_len (n : Nat) (h : n < 1000) : (Lib.decDigits n).length ≤ 3 := by
 rw [Lib.decDigits]; split
 · simp
 ·
  rw [Lib.decDigits]; split
  · simp
  ·
   rw [Lib.decDigits, dif_pos (by omega)]; simp
set_option maxHeartbeats 400000 in
theorem l1decimal_any (n : Nat) (w : World) (h2 : n ≤ 4611686018427387904) :
  Calls Tryz.prog 41 #[.int .i64 n] w fun e w' => RetD e n ∧ Below w.heap.size w w' := by
 by_cases h0 : n = 0
 ·
  subst h0
  go_enter Tryz.func41, Tryz.ntmps41
  go_wp2; go_ret; exact ⟨⟨_, rfl, by rw [Lib.decDigits]; rfl⟩, Below.refl _ _⟩
 ·
  have h1 : 0 < n := by omega
  have t0 : ((n : Int) == 0) = false := by simpa using h0
  go_enter Tryz.func41, Tryz.ntmps41
  go_wp2; clear t0
  go_loopw [0, 3] (fun q s wr => ∃ (m f : Nat) (l : List UInt8), q = .int .i64 m ∧ m ≤ 4611686018427387904 ∧ m ≤ f ∧ s = .string ⟨l.toArray⟩ ∧ l.length + m ≤ 4611686018427387904 ∧ decF f m l = decF n n [] ∧ Below w.heap.size w wr) (fun q _ _ => (intOf q).toNat)
  case atStart => exact ⟨n, n, [], rfl, h2, Nat.le_refl _, rfl, by simpa using h2, rfl, Below.refl _ _⟩
  case round =>
   obtain ⟨m, f, l, rfl, hn, hf, rfl, hl, hd, hb⟩ := hrel; have HD : Hid (decF f m l = decF n n []) := hd; clear hd
   by_cases hz : 0 < m
   ·
    have hcv := conv_digit m; have hsz : (ByteArray.mk #[dig m]).size + (ByteArray.mk l.toArray).size ≤ 9223372036854775807 := by simp [ByteArray.size]; omega
    have hadd := fun W => run_string_add_sum (P := Tryz.prog) W _ _ hsz; have hcb := cons_bytes (dig m) l; go_wp2; go_roundw
    case rel =>
     refine ⟨m / 10, f - 1, dig m :: l, by go_num, by omega, by omega, ?_, by simp; omega, ?_, hb.alloc hb.size _⟩
     · rfl
     ·
      rw [← HD.out]; obtain ⟨f', rfl⟩ : ∃ f', f = f' + 1 := ⟨f - 1, by omega⟩; simp only [Nat.add_sub_cancel]; rw [show decF (f' + 1) m l = decF f' (m / 10) (dig m :: l) from by rw [decF]; rw [if_neg (by omega)]]
    case measure => simp [intOf]; omega
   ·
    go_wp2; go_ret; refine ⟨⟨_, rfl, ?_⟩, hb⟩; obtain rfl : m = 0 := by omega
    have e := HD.out; rw [decF_zero] at e; rw [bl_mk, e, decF_eq n n [] h1 (Nat.le_refl _), List.append_nil]
def sightT : List UInt8 := [32, 111, 110, 32, 115, 105, 103, 104, 116]
def passT : List UInt8 := [58, 32, 112, 97, 115, 115]
def workT : List UInt8 := [58, 32, 119, 111, 114, 107, 32, 111, 110]
def orderT : List UInt8 := [111, 114, 100, 101, 114, 32]
def toT : List UInt8 := [32, 116, 111, 32]
def secT (x : Ord) : Nat → List UInt8
 | 0 => []
 | k + 1 => secT x k ++ (32 :: Lib.decDigits (sV x k).toNat)
def headT (i : Nat) (x : Ord) : List UInt8 := orderT ++ Lib.decDigits i ++ toT ++ bl x.holder
def baseT (i : Nat) (x : Ord) : List UInt8 := headT i x ++ (if x.kind = 1 then passT else workT)
def SightTo (B : Bk) (x : Ord) (k : Nat) : Prop := ∃ q, q < k ∧ B.occ.getD (sV x q).toNat false = true
def Sight (B : Bk) (x : Ord) : Prop := SightTo B x x.secs.length
def OrdT (B : Bk) (i : Nat) (l : List UInt8) : Prop :=
 ((bX B i).kind = 1 ∧ Sight B (bX B i) ∧ l = baseT i (bX B i) ++ secT (bX B i) (bX B i).secs.length ++ sightT) ∨
 (¬ ((bX B i).kind = 1 ∧ Sight B (bX B i)) ∧ l = baseT i (bX B i) ++ secT (bX B i) (bX B i).secs.length)
def TextIs (B : Bk) (i : Int) (l : List UInt8) : Prop :=
 (¬ (Right B ∧ 0 ≤ i ∧ i < B.orders.length) ∧ l = []) ∨ (Right B ∧ ∃ j : Nat, i = (j : Int) ∧ j < B.orders.length ∧ OrdT B j l)
theorem OrdT.det {B : Bk} {i : Nat} {l m : List UInt8} (h : OrdT B i l) (k : OrdT B i m) : l = m := by
 rcases h with ⟨h1, h2, h3⟩ | ⟨h1, h3⟩ <;> rcases k with ⟨k1, k2, k3⟩ | ⟨k1, k3⟩
 · rw [h3, k3]
 · exact absurd ⟨h1, h2⟩ k1
 · exact absurd ⟨k1, k2⟩ h1
 · rw [h3, k3]
theorem TextIs.det {B : Bk} {i : Int} {l m : List UInt8} (h : TextIs B i l) (k : TextIs B i m) : l = m := by
 rcases h with ⟨h1, h2⟩ | ⟨h1, j, h2, h3, h4⟩ <;> rcases k with ⟨k1, k2⟩ | ⟨k1, q, k2, k3, k4⟩
 · rw [h2, k2]
 · exact absurd ⟨k1, by omega, by omega⟩ h1
 · exact absurd ⟨h1, by omega, by omega⟩ k1
 ·
  obtain rfl : j = q := by omega
  exact h4.det k4
def RetT (e : Ending) (B : Bk) (i : Int) : Prop := ∃ s, e = .returned (.string s) ∧ TextIs B i (bl s)
def RetO (e : Ending) (B : Bk) (i : Nat) : Prop := ∃ s, e = .returned (.string s) ∧ OrdT B i (bl s)
end Go.Proofs.YtdlaekjofgbjcaaGreatDoor
