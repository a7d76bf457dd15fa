import Derived.Test.YtbcfmehcghkpiaaDoorBaseZ
import Derived.Test.YtbcfmehcghkpiaaDoorDec
import Derived.Deep.QuietTactic
import Derived.BigQuiet
import Derived.Deep.RegionHeld3
import Derived.Deep.DrawnRows
/-
  The contracts of laws.markIntS, markBoolS, markText, markOrderS, markBook: what owns its memory is overwritten, nothing else. Mine, by template (wip/gen.py).
-/
namespace Go.Proofs.YtbcfmehcghkpiaaDoor
open Go.RowKit

set_option maxHeartbeats 400000 in
theorem markIntS_any (ad : Option Addr) (c n g : Nat) (f : Nat → Value) (k : Int) (w : World) (h0 : 0 ≤ k) (h1 : k + n ≤ 4611686018427387904) (hd : 0 < n → ad = some ⟨g, 0, none⟩) (hr : 0 < n → Pre w g 3 n f) :
    Calls Tryd.prog 31 #[.slice ad n c, .int .i64 k] w fun e w' => e = .returned (.int .i64 (k + n)) ∧ (0 < n → Pre w' g 3 n (fun i => .int .i64 (k + i))) ∧ Fr (fun b => 0 < n ∧ b = g) w w' := by
  go_enter Tryd.func31, Tryd.ntmps31
  go_wp2
  go_loopw [1, 5] (fun q i wr => ∃ j : Nat, j ≤ n ∧ i = .int .i64 j ∧ q = .int .i64 (k + j) ∧ (0 < n → Pre wr g 3 n (fun i => if i < j then .int .i64 (k + i) else f i)) ∧ Fr (fun b => 0 < n ∧ b = g) w wr) (fun _ i _ => n - (intOf i).toNat)
  case atStart => exact ⟨0, Nat.zero_le _, rfl, by simp, fun hp => (hr hp).congr (fun i _ => by simp), Fr.refl _ _⟩
  case round =>
    obtain ⟨j, hj, rfl, rfl, hrow, hfr⟩ := hrel
    by_cases hlt : j < n
    · obtain rfl := hd (by omega)
      have hrw := hrow (by omega)
      have e1 := hrw.cell hlt
      have e2 := hrw.frozen j
      clear hrow hd hr
      go_wp2
      go_roundw
      case rel =>
        refine ⟨j + 1, by omega, by go_num, by go_num, fun _ => (hrw.set j _).congr (fun i _ => ?_), hfr.setCell ⟨by omega, rfl⟩ _⟩
        by_cases ei : i = j
        · subst ei; simp
        · rw [if_neg ei]
          by_cases hij : i < j
          · rw [if_pos hij, if_pos (by omega)]
          · rw [if_neg hij, if_neg (by omega)]
      case measure => simp [intOf]; omega
    · obtain rfl : j = n := by omega
      have HR : Hid (0 < j → Pre wr g 3 j (fun i => if i < j then .int .i64 (k + i) else f i)) := hrow
      clear hrow hd hr
      go_wp2
      go_ret
      exact ⟨rfl, fun hp => (HR.out hp).congr (fun i hi => by rw [if_pos hi]), hfr⟩

/-- What a flag is marked with. -/
def mb (k : Int) : Bool := k % 3 == 0

end Go.Proofs.YtbcfmehcghkpiaaDoor

/-
  The contracts of laws.markOrderS, markBook. Mine, by template (wip/gen.py).
-/
namespace Go.Proofs.YtbcfmehcghkpiaaDoor
open Go.RowKit

def mtext (k : Nat) : ByteArray := ⟨(109 :: decF k k []).toArray⟩

/-- An order, marked from k on. -/
def mOrd (k : Nat) (x : Ord) : Ord := ⟨mtext k, ((k + 1 : Nat) : Int), (List.range x.secs.length).map (fun i => ((k + 2 + i : Nat) : Int)), ((k + 2 + x.secs.length : Nat) : Int)⟩

theorem mOrd_len (k : Nat) (x : Ord) : (mOrd k x).secs.length = x.secs.length := by simp [mOrd]

theorem mOrd_sec (k : Nat) (x : Ord) (i : Nat) (h : i < x.secs.length) : iV (mOrd k x).secs i = .int .i64 (((k + 2 : Nat) : Int) + i) := by
  have : (mOrd k x).secs.getD i 0 = ((k + 2 + i : Nat) : Int) := by simp [mOrd, h]
  unfold iV
  rw [this]
  congr 1

/-- Where the marks of order i begin. -/
def kAt (X : Nat → Ord) (k : Nat) : Nat → Nat
  | 0 => k
  | i + 1 => kAt X k i + 3 + (X i).secs.length

theorem kAt_mono (X : Nat → Ord) (k : Nat) {i j : Nat} (h : i ≤ j) : kAt X k i ≤ kAt X k j := by
  induction j with
  | zero => obtain rfl : i = 0 := by omega
            exact Nat.le_refl _
  | succ j ih =>
    by_cases e : i = j + 1
    · subst e; exact Nat.le_refl _
    · have := ih (by omega); simp only [kAt]; omega

/-- The orders when j of them are marked. -/
def mX (X : Nat → Ord) (k j : Nat) (i : Nat) : Ord := if i < j then mOrd (kAt X k i) (X i) else X i

theorem mX_len (X : Nat → Ord) (k j i : Nat) : (mX X k j i).secs.length = (X i).secs.length := by
  unfold mX; split
  · exact mOrd_len _ _
  · rfl

theorem mark_step {w w1 w2 : World} {lo : Nat} {ad : Option Addr} {n k j : Nat} {X : Nat → Ord} {G : Nat} {gs : Nat → Nat} {sa : Nat → Option Addr} {sc : Nat → Nat} (h : OwnOrds w lo ad n (mX X k j) G gs sa sc) (hj : j < n) (hb : Below w.heap.size w w1)
    (hf : Fr (fun b => 0 < (X j).secs.length ∧ b = gs j) ((w1.setCell ⟨G, j * 4, none⟩ (.string (mtext (kAt X k j)))).setCell ⟨G, j * 4 + 1, none⟩ (.int .i64 ((kAt X k j : Int) + 1))) w2)
    (hr : 0 < (X j).secs.length → Pre w2 (gs j) 3 (X j).secs.length (fun i => .int .i64 ((kAt X k j : Int) + 2 + i))) :
    OwnOrds (w2.setCell ⟨G, j * 4 + 3, none⟩ (.int .i64 ((kAt X k j : Int) + 2 + (X j).secs.length))) lo ad n (mX X k (j + 1)) G gs sa sc := by
  have h1 := h.below hb
  have hn : 0 < n := by omega
  have ne : 0 < (X j).secs.length → gs j ≠ G := fun hp => (h.slow j hj (by rw [mX_len]; exact hp)).2
  refine ⟨h.head, fun _ => ?_, h.low, fun i hi hp => ⟨(h.sec i hi (by rw [mX_len] at hp ⊢; exact hp)).1, ?_⟩, fun i hi hp => h.slow i hi (by rw [mX_len] at hp ⊢; exact hp), fun i i' hi hi' hp hp' => h.inj i i' hi hi' (by rw [mX_len] at hp ⊢; exact hp) (by rw [mX_len] at hp' ⊢; exact hp')⟩
  · have r1 := ((h1.row hn).set (j * 4) (.string (mtext (kAt X k j)))).set (j * 4 + 1) (.int .i64 ((kAt X k j : Int) + 1))
    have r2 := (hf.row r1 (fun e => ne e.1 e.2.symm)).set (j * 4 + 3) (.int .i64 ((kAt X k j : Int) + 2 + (X j).secs.length))
    refine r2.congr (fun q hq => ?_)
    have hm : q % 4 < 4 := Nat.mod_lt _ (by omega)
    unfold ordCells
    by_cases e : q / 4 = j
    · have eX : mX X k (j + 1) j = mOrd (kAt X k j) (X j) := by unfold mX; rw [if_pos (by omega)]
      have eX0 : mX X k j j = X j := by unfold mX; rw [if_neg (by omega)]
      rw [e, eX, eX0]
      rcases (show q % 4 = 0 ∨ q % 4 = 1 ∨ q % 4 = 2 ∨ q % 4 = 3 by omega) with u | u | u | u
      · rw [if_neg (by omega), if_neg (by omega), if_pos (by omega), u]; rfl
      · rw [if_neg (by omega), if_pos (by omega), u]; simp [ordCell, mOrd]
      · rw [if_neg (by omega), if_neg (by omega), if_neg (by omega), u]; simp [ordCell, mOrd_len]
      · rw [if_pos (by omega), u]; simp [ordCell, mOrd]
    · rw [if_neg (by omega), if_neg (by omega), if_neg (by omega)]
      have : mX X k (j + 1) (q / 4) = mX X k j (q / 4) := by
        unfold mX
        by_cases hl : q / 4 < j
        · rw [if_pos hl, if_pos (by omega)]
        · rw [if_neg hl, if_neg (by omega)]
      rw [this]
  · rw [mX_len] at hp ⊢
    have nG := (h.slow i hi (by rw [mX_len]; exact hp)).2
    by_cases e : i = j
    · subst e
      have eX : mX X k (i + 1) i = mOrd (kAt X k i) (X i) := by unfold mX; rw [if_pos (by omega)]
      rw [eX]
      exact ((hr hp).congr (fun q hq => by rw [mOrd_sec _ _ _ hq]; simp)).setOther nG _
    · have eX : mX X k (j + 1) i = mX X k j i := by
        unfold mX
        by_cases hl : i < j
        · rw [if_pos hl, if_pos (by omega)]
        · rw [if_neg hl, if_neg (by omega)]
      rw [eX]
      have r0 := (h1.sec i hi (by rw [mX_len]; exact hp)).2
      rw [mX_len] at r0
      refine (hf.row ((r0.setOther nG _).setOther nG _) (fun u => ?_)).setOther nG _
      exact e (h.inj i j hi hj (by rw [mX_len]; exact hp) (by rw [mX_len]; exact u.1) u.2)

/-- A book, marked from k on. -/
def bK (B : Bk) (k : Nat) : Nat := kAt (bX B) k B.orders.length
def bEnd (B : Bk) (k : Nat) : Nat := bK B k + B.locked.length + B.occ.length
def mBk (B : Bk) (k : Nat) : Bk := ⟨B.n, (List.range B.orders.length).map (mX (bX B) k B.orders.length), (List.range B.locked.length).map (fun (i : Nat) => mb ((bK B k : Int) + (i : Int))), (List.range B.occ.length).map (fun (i : Nat) => mb (((bK B k + B.locked.length : Nat) : Int) + (i : Int)))⟩

end Go.Proofs.YtbcfmehcghkpiaaDoor

/-
  The contracts of laws.heldIntS, heldBoolS, heldOrderS, heldBook: where the marks stand, they are found. Mine, by template (wip/gen.py).
-/
namespace Go.Proofs.YtbcfmehcghkpiaaDoor
open Go.RowKit

set_option maxHeartbeats 400000 in
theorem heldIntS_any (ad : Option Addr) (c n : Nat) (k : Int) (w : World) (h0 : 0 ≤ k) (h1 : k + n ≤ 4611686018427387904) (G : Cells w ad n (fun i => .int .i64 (k + i))) :
    Calls Tryd.prog 32 #[.slice ad n c, .int .i64 k] w fun e w' => e = .returned (.int .i64 (k + n)) ∧ Below w.heap.size w w' := by
  obtain ⟨b, o, hd, g⟩ := G
  go_enter Tryd.func32, Tryd.ntmps32
  go_wp2
  go_loop [1, 5] (fun q i => ∃ j : Nat, j ≤ n ∧ i = .int .i64 j ∧ q = .int .i64 (k + j)) (fun _ i => n - (intOf i).toNat)
  case atStart => exact ⟨0, Nat.zero_le _, rfl, by simp⟩
  case round =>
    obtain ⟨j, hj, rfl, rfl⟩ := hrel
    by_cases hlt : j < n
    · obtain rfl := hd (by omega)
      have e1 := g j hlt
      clear g hd
      go_wp2
      go_round
      case rel => exact ⟨j + 1, by omega, by go_num, by go_num⟩
      case measure => simp [intOf]; omega
    · obtain rfl : j = n := by omega
      clear g hd
      go_wp2
      go_ret
      exact ⟨rfl, Below.refl _ _⟩

end Go.Proofs.YtbcfmehcghkpiaaDoor
