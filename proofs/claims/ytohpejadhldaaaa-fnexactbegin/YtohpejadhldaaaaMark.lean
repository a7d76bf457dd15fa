/-
  The contracts of laws.markIntS, markBoolS, markText, markOrderS, markBook: what owns its memory is overwritten, nothing else. Mine, by template (wip/gen.py).
-/
import Derived.Test.YtohpejadhldaaaaOwn
namespace Go.Proofs.Ytohpejadhldaaaa
open Go.RowKit

/-- Of what was there only blocks of S have turned. -/
structure Fr (S : Nat → Prop) (w w' : World) : Prop where
  os : w'.os = w.os
  tape : w'.tape = w.tape
  output : w'.output = w.output
  size : w.heap.size ≤ w'.heap.size
  block : ∀ b, b < w.heap.size → ¬ S b → w'.heap[b]? = w.heap[b]?

theorem Fr.refl (S : Nat → Prop) (w : World) : Fr S w w := ⟨rfl, rfl, rfl, Nat.le_refl _, fun _ _ _ => rfl⟩
theorem Fr.trans {S : Nat → Prop} {a b c : World} (h : Fr S a b) (k : Fr S b c) : Fr S a c :=
  ⟨k.os.trans h.os, k.tape.trans h.tape, k.output.trans h.output, Nat.le_trans h.size k.size, fun i hi hs => (k.block i (Nat.lt_of_lt_of_le hi h.size) hs).trans (h.block i hi hs)⟩
theorem Fr.of_below {S : Nat → Prop} {a b : World} (h : Below a.heap.size a b) : Fr S a b := ⟨h.os, h.tape, h.output, h.size, fun i hi _ => h.block i hi⟩
theorem Fr.mono {S T : Nat → Prop} {a b : World} (h : Fr S a b) (hs : ∀ i, S i → T i) : Fr T a b := ⟨h.os, h.tape, h.output, h.size, fun i hi ht => h.block i hi (fun hsi => ht (hs i hsi))⟩
theorem Fr.setCell {S : Nat → Prop} {a w : World} (h : Fr S a w) {p : Addr} (hp : S p.block) (u : Value) : Fr S a (w.setCell p u) :=
  h.trans ⟨rfl, rfl, rfl, by simp [World.setCell], fun k _ hk => Below.heap_setCell _ _ _ _ (fun e => hk (e ▸ hp))⟩
theorem Fr.alloc {S : Nat → Prop} {a w : World} (h : Fr S a w) (o : Obj) : Fr S a (w.alloc o) :=
  h.trans (Fr.of_below (below1 w o))
/-- Where S lies wholly from B on, all below B is as it was. -/
theorem Fr.below {S : Nat → Prop} {a b : World} (h : Fr S a b) {B : Nat} (hB : B ≤ a.heap.size) (hs : ∀ i, S i → B ≤ i) : Below B a b :=
  ⟨h.os, h.tape, h.output, h.size, fun i hi => h.block i (by omega) (fun hsi => by have := hs i hsi; omega)⟩
theorem Fr.row {S : Nat → Prop} {a b : World} (h : Fr S a b) {g : Nat} {t : TypeId} {n : Nat} {f : Nat → Value} (hr : Pre a g t n f) (hs : ¬ S g) : Pre b g t n f := hr.of_block (h.block _ hr.lt hs)

set_option maxHeartbeats 400000 in
theorem markIntS_any (ad : Option Addr) (c n g : Nat) (f : Nat → Value) (k : Int) (w : World) (h0 : 0 ≤ k) (h1 : k + n ≤ 4611686018427387904) (hd : 0 < n → ad = some ⟨g, 0, none⟩) (hr : 0 < n → Pre w g 3 n f) :
    Calls Try.prog 19 #[.slice ad n c, .int .i64 k] w fun e w' => e = .returned (.int .i64 (k + n)) ∧ (0 < n → Pre w' g 3 n (fun i => .int .i64 (k + i))) ∧ Fr (fun b => 0 < n ∧ b = g) w w' := by
  go_enter Try.func19, Try.ntmps19
  go_wp2
  go_loopw [1, 5] (fun q i wr => ∃ j : Nat, j ≤ n ∧ i = .int .i64 j ∧ q = .int .i64 (k + j) ∧ (0 < n → Pre wr g 3 n (fun i => if i < j then .int .i64 (k + i) else f i)) ∧ Fr (fun b => 0 < n ∧ b = g) w wr) (fun _ i _ => n - (intOf i).toNat)
  case atStart => exact ⟨0, Nat.zero_le _, rfl, by simp, fun hp => (hr hp).congr (fun i _ => by simp), Fr.refl _ _⟩
  case round =>
    obtain ⟨j, hj, rfl, rfl, hrow, hfr⟩ := hrel
    by_cases hlt : j < n
    · obtain rfl := hd (by omega)
      have hrw := hrow (by omega)
      have e1 := hrw.cell hlt
      have e2 := hrw.frozen j
      clear hrow hd hr
      go_wp2
      go_roundw
      case rel =>
        refine ⟨j + 1, by omega, by go_num, by go_num, fun _ => (hrw.set j _).congr (fun i _ => ?_), hfr.setCell ⟨by omega, rfl⟩ _⟩
        by_cases ei : i = j
        · subst ei; simp
        · rw [if_neg ei]
          by_cases hij : i < j
          · rw [if_pos hij, if_pos (by omega)]
          · rw [if_neg hij, if_neg (by omega)]
      case measure => simp [intOf]; omega
    · obtain rfl : j = n := by omega
      have HR : Hid (0 < j → Pre wr g 3 j (fun i => if i < j then .int .i64 (k + i) else f i)) := hrow
      clear hrow hd hr
      go_wp2
      go_ret
      exact ⟨rfl, fun hp => (HR.out hp).congr (fun i hi => by rw [if_pos hi]), hfr⟩

/-- What a flag is marked with. -/
def mb (k : Int) : Bool := k % 3 == 0

set_option maxHeartbeats 400000 in
theorem markBoolS_any (ad : Option Addr) (c n g : Nat) (f : Nat → Value) (k : Int) (w : World) (h0 : 0 ≤ k) (h1 : k + n ≤ 4611686018427387904) (hd : 0 < n → ad = some ⟨g, 0, none⟩) (hr : 0 < n → Pre w g 4 n f) :
    Calls Try.prog 28 #[.slice ad n c, .int .i64 k] w fun e w' => e = .returned (.int .i64 (k + n)) ∧ (0 < n → Pre w' g 4 n (fun i => .bool (mb (k + i)))) ∧ Fr (fun b => 0 < n ∧ b = g) w w' := by
  go_enter Try.func28, Try.ntmps28
  go_wp2
  go_loopw [1, 5] (fun q i wr => ∃ j : Nat, j ≤ n ∧ i = .int .i64 j ∧ q = .int .i64 (k + j) ∧ (0 < n → Pre wr g 4 n (fun i => if i < j then .bool (mb (k + i)) else f i)) ∧ Fr (fun b => 0 < n ∧ b = g) w wr) (fun _ i _ => n - (intOf i).toNat)
  case atStart => exact ⟨0, Nat.zero_le _, rfl, by simp, fun hp => (hr hp).congr (fun i _ => by simp), Fr.refl _ _⟩
  case round =>
    obtain ⟨j, hj, rfl, rfl, hrow, hfr⟩ := hrel
    by_cases hlt : j < n
    · obtain rfl := hd (by omega)
      have hrw := hrow (by omega)
      have e1 := hrw.cell hlt
      have e2 := hrw.frozen j
      clear hrow hd hr
      go_wp2
      go_roundw
      case rel =>
        refine ⟨j + 1, by omega, by go_num, by go_num, fun _ => (hrw.set j _).congr (fun i _ => ?_), hfr.setCell ⟨by omega, rfl⟩ _⟩
        by_cases ei : i = j
        · subst ei; simp [mb]
        · rw [if_neg ei]
          by_cases hij : i < j
          · rw [if_pos hij, if_pos (by omega)]
          · rw [if_neg hij, if_neg (by omega)]
      case measure => simp [intOf]; omega
    · obtain rfl : j = n := by omega
      have HR : Hid (0 < j → Pre wr g 4 j (fun i => if i < j then .bool (mb (k + i)) else f i)) := hrow
      clear hrow hd hr
      go_wp2
      go_ret
      exact ⟨rfl, fun hp => (HR.out hp).congr (fun i hi => by rw [if_pos hi]), hfr⟩

/-- The last decimal digit. -/
def dig (n : Nat) : UInt8 := UInt8.ofNat (48 + n % 10)

/-- The decimal digits of n ahead of acc. -/
def decF : Nat → Nat → List UInt8 → List UInt8
  | 0, _, acc => acc
  | f + 1, n, acc => if n = 0 then acc else decF f (n / 10) (dig n :: acc)

theorem conv_digit (n : Nat) (w : World) : Sem.run Try.prog (convert 66 9 (.slice (some ⟨w.heap.size, 0, none⟩) 1 1)) (w.alloc (.cells #[.int .u8 (48 + (n : Int) % 10)] 5)) =
    .ok (.string ⟨#[dig n]⟩) (w.alloc (.cells #[.int .u8 (48 + (n : Int) % 10)] 5)) := by
  have h := run_convert_bytes_back (P := Try.prog) (w.alloc (.cells #[.int .u8 (48 + (n : Int) % 10)] 5)) 66 9 5 ⟨w.heap.size, 0, none⟩ 1 [UInt8.ofNat (48 + n % 10)] Try.underlying66 Try.underlying5 Try.underlying9 (fun j hj => by
    obtain rfl : j = 0 := by simp at hj; omega
    have e : (UInt8.ofNat (48 + n % 10)).toNat = 48 + n % 10 := by rw [UInt8.toNat_ofNat']; omega
    have e2 : ((UInt8.ofNat (48 + n % 10)).toNat : Int) = 48 + (n : Int) % 10 := by rw [e]; omega
    show (w.alloc _).cell? ⟨w.heap.size, 0, none⟩ = some (.int .u8 ((UInt8.ofNat (48 + n % 10)).toNat : Int))
    rw [e2]; simp [go_sem])
  exact h

theorem cons_bytes (d : UInt8) (l : List UInt8) : (⟨#[d]⟩ ++ ⟨l.toArray⟩ : ByteArray) = ⟨(d :: l).toArray⟩ := by
  rw [ByteArray.mk_append_mk]; simp

theorem decF_zero (f : Nat) (l : List UInt8) : decF f 0 l = l := by cases f <;> simp [decF]

set_option maxHeartbeats 400000 in
theorem markText_any (k : Nat) (w : World) (h1 : 0 < k) (h2 : k ≤ 4611686018427387904) :
    Calls Try.prog 44 #[.int .i64 k] w fun e w' => e = .returned (.string ⟨(109 :: decF k k []).toArray⟩) ∧ Below w.heap.size w w' := by
  have hne : ((k : Int) ≤ 0) = False := by simp; omega
  go_enter Try.func44, Try.ntmps44
  go_wp2
  clear hne
  go_loopw [0, 3] (fun q s wr => ∃ (n f : Nat) (l : List UInt8), q = .int .i64 n ∧ n ≤ 4611686018427387904 ∧ n ≤ f ∧ s = .string ⟨l.toArray⟩ ∧ l.length + n ≤ 4611686018427387904 ∧ decF f n l = decF k k [] ∧ Below w.heap.size w wr) (fun q _ _ => (intOf q).toNat)
  case atStart => exact ⟨k, k, [], rfl, h2, Nat.le_refl _, rfl, by simpa using h2, rfl, Below.refl _ _⟩
  case round =>
    obtain ⟨n, f, l, rfl, hn, hf, rfl, hl, hd, hb⟩ := hrel
    have HD : Hid (decF f n l = decF k k []) := hd
    clear hd
    by_cases hz : 0 < n
    · have hcv := conv_digit n
      have hsz : (ByteArray.mk #[dig n]).size + (ByteArray.mk l.toArray).size ≤ 9223372036854775807 := by simp [ByteArray.size]; omega
      have hadd := fun W => run_string_add_sum (P := Try.prog) W _ _ hsz
      have hcb := cons_bytes (dig n) l
      go_wp2
      go_roundw
      case rel =>
        refine ⟨n / 10, f - 1, dig n :: l, by go_num, by omega, by omega, ?_, by simp; omega, ?_, hb.alloc hb.size _⟩
        · rfl
        · rw [← HD.out]
          obtain ⟨f', rfl⟩ : ∃ f', f = f' + 1 := ⟨f - 1, by omega⟩
          simp only [Nat.add_sub_cancel]
          rw [show decF (f' + 1) n l = decF f' (n / 10) (dig n :: l) from by rw [decF]; rw [if_neg (by omega)]]
      case measure => simp [intOf]; omega
    · have hsz : (ByteArray.mk #[109]).size + (ByteArray.mk l.toArray).size ≤ 9223372036854775807 := by simp [ByteArray.size]; omega
      go_wp2
      go_ret
      refine ⟨?_, hb⟩
      obtain rfl : n = 0 := by omega
      have e := HD.out
      rw [decF_zero] at e
      rw [← e, ← cons_bytes]
      rfl

end Go.Proofs.Ytohpejadhldaaaa
