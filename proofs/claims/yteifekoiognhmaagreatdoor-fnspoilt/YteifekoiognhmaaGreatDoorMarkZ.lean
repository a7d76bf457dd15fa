import Derived.Test.YteifekoiognhmaaGreatDoorBaseZ
import Derived.Test.YteifekoiognhmaaGreatDoorDec
import Derived.Deep.QuietTactic
import Derived.BigQuiet
import Derived.Deep.RegionHeld3
import Derived.Deep.DrawnRows
import Derived.RegionTactic
import Derived.BigRegion
/-
  The contracts of laws.markIntS, markBoolS, markText, markOrderS, markBook: what owns its memory is overwritten, nothing else. Mine, by template (wip/gen.py).
-/
namespace Go.Proofs.YteifekoiognhmaaGreatDoor
open Go.RowKit
/-- What a flag is marked with. -/
def mb (k : Int) : Bool := k % 3 == 0

end Go.Proofs.YteifekoiognhmaaGreatDoor

/-
  The contracts of laws.markOrderS, markBook. Mine, by template (wip/gen.py).
-/
namespace Go.Proofs.YteifekoiognhmaaGreatDoor
open Go.RowKit

def mtext (k : Nat) : ByteArray := ⟨(109 :: decF k k []).toArray⟩

/-- An order, marked from k on. -/
def mOrd (k : Nat) (x : Ord) : Ord := ⟨mtext k, ((k + 1 : Nat) : Int), (List.range x.secs.length).map (fun i => ((k + 2 + i : Nat) : Int)), ((k + 2 + x.secs.length : Nat) : Int)⟩

theorem mOrd_len (k : Nat) (x : Ord) : (mOrd k x).secs.length = x.secs.length := by simp [mOrd]

theorem mOrd_sec (k : Nat) (x : Ord) (i : Nat) (h : i < x.secs.length) : iV (mOrd k x).secs i = .int .i64 (((k + 2 : Nat) : Int) + i) := by
  have : (mOrd k x).secs.getD i 0 = ((k + 2 + i : Nat) : Int) := by simp [mOrd, h]
  unfold iV
  rw [this]
  congr 1

/-- Where the marks of order i begin. -/
def kAt (X : Nat → Ord) (k : Nat) : Nat → Nat
  | 0 => k
  | i + 1 => kAt X k i + 3 + (X i).secs.length

theorem kAt_mono (X : Nat → Ord) (k : Nat) {i j : Nat} (h : i ≤ j) : kAt X k i ≤ kAt X k j := by
  induction j with
  | zero => obtain rfl : i = 0 := by omega
            exact Nat.le_refl _
  | succ j ih =>
    by_cases e : i = j + 1
    · subst e; exact Nat.le_refl _
    · have := ih (by omega); simp only [kAt]; omega

/-- The orders when j of them are marked. -/
def mX (X : Nat → Ord) (k j : Nat) (i : Nat) : Ord := if i < j then mOrd (kAt X k i) (X i) else X i

theorem mX_len (X : Nat → Ord) (k j i : Nat) : (mX X k j i).secs.length = (X i).secs.length := by
  unfold mX; split
  · exact mOrd_len _ _
  · rfl

theorem mark_step {w w1 w2 : World} {lo : Nat} {ad : Option Addr} {n k j : Nat} {X : Nat → Ord} {G : Nat} {gs : Nat → Nat} {sa : Nat → Option Addr} {sc : Nat → Nat} (h : OwnOrds w lo ad n (mX X k j) G gs sa sc) (hj : j < n) (hb : Below w.heap.size w w1)
    (hf : Fr (fun b => 0 < (X j).secs.length ∧ b = gs j) ((w1.setCell ⟨G, j * 4, none⟩ (.string (mtext (kAt X k j)))).setCell ⟨G, j * 4 + 1, none⟩ (.int .i64 ((kAt X k j : Int) + 1))) w2)
    (hr : 0 < (X j).secs.length → Pre w2 (gs j) 3 (X j).secs.length (fun i => .int .i64 ((kAt X k j : Int) + 2 + i))) :
    OwnOrds (w2.setCell ⟨G, j * 4 + 3, none⟩ (.int .i64 ((kAt X k j : Int) + 2 + (X j).secs.length))) lo ad n (mX X k (j + 1)) G gs sa sc := by
  have h1 := h.below hb
  have hn : 0 < n := by omega
  have ne : 0 < (X j).secs.length → gs j ≠ G := fun hp => (h.slow j hj (by rw [mX_len]; exact hp)).2
  refine ⟨h.head, fun _ => ?_, h.low, fun i hi hp => ⟨(h.sec i hi (by rw [mX_len] at hp ⊢; exact hp)).1, ?_⟩, fun i hi hp => h.slow i hi (by rw [mX_len] at hp ⊢; exact hp), fun i i' hi hi' hp hp' => h.inj i i' hi hi' (by rw [mX_len] at hp ⊢; exact hp) (by rw [mX_len] at hp' ⊢; exact hp')⟩
  · have r1 := ((h1.row hn).set (j * 4) (.string (mtext (kAt X k j)))).set (j * 4 + 1) (.int .i64 ((kAt X k j : Int) + 1))
    have r2 := (hf.row r1 (fun e => ne e.1 e.2.symm)).set (j * 4 + 3) (.int .i64 ((kAt X k j : Int) + 2 + (X j).secs.length))
    refine r2.congr (fun q hq => ?_)
    have hm : q % 4 < 4 := Nat.mod_lt _ (by omega)
    unfold ordCells
    by_cases e : q / 4 = j
    · have eX : mX X k (j + 1) j = mOrd (kAt X k j) (X j) := by unfold mX; rw [if_pos (by omega)]
      have eX0 : mX X k j j = X j := by unfold mX; rw [if_neg (by omega)]
      rw [e, eX, eX0]
      rcases (show q % 4 = 0 ∨ q % 4 = 1 ∨ q % 4 = 2 ∨ q % 4 = 3 by omega) with u | u | u | u
      · rw [if_neg (by omega), if_neg (by omega), if_pos (by omega), u]; rfl
      · rw [if_neg (by omega), if_pos (by omega), u]; simp [ordCell, mOrd]
      · rw [if_neg (by omega), if_neg (by omega), if_neg (by omega), u]; simp [ordCell, mOrd_len]
      · rw [if_pos (by omega), u]; simp [ordCell, mOrd]
    · rw [if_neg (by omega), if_neg (by omega), if_neg (by omega)]
      have : mX X k (j + 1) (q / 4) = mX X k j (q / 4) := by
        unfold mX
        by_cases hl : q / 4 < j
        · rw [if_pos hl, if_pos (by omega)]
        · rw [if_neg hl, if_neg (by omega)]
      rw [this]
  · rw [mX_len] at hp ⊢
    have nG := (h.slow i hi (by rw [mX_len]; exact hp)).2
    by_cases e : i = j
    · subst e
      have eX : mX X k (i + 1) i = mOrd (kAt X k i) (X i) := by unfold mX; rw [if_pos (by omega)]
      rw [eX]
      exact ((hr hp).congr (fun q hq => by rw [mOrd_sec _ _ _ hq]; simp)).setOther nG _
    · have eX : mX X k (j + 1) i = mX X k j i := by
        unfold mX
        by_cases hl : i < j
        · rw [if_pos hl, if_pos (by omega)]
        · rw [if_neg hl, if_neg (by omega)]
      rw [eX]
      have r0 := (h1.sec i hi (by rw [mX_len]; exact hp)).2
      rw [mX_len] at r0
      refine (hf.row ((r0.setOther nG _).setOther nG _) (fun u => ?_)).setOther nG _
      exact e (h.inj i j hi hj (by rw [mX_len]; exact hp) (by rw [mX_len]; exact u.1) u.2)

/-- A book, marked from k on. -/
def bK (B : Bk) (k : Nat) : Nat := kAt (bX B) k B.orders.length
def bEnd (B : Bk) (k : Nat) : Nat := bK B k + B.locked.length + B.occ.length
def mBk (B : Bk) (k : Nat) : Bk := ⟨B.n, (List.range B.orders.length).map (mX (bX B) k B.orders.length), (List.range B.locked.length).map (fun (i : Nat) => mb ((bK B k : Int) + (i : Int))), (List.range B.occ.length).map (fun (i : Nat) => mb (((bK B k + B.locked.length : Nat) : Int) + (i : Int)))⟩

end Go.Proofs.YteifekoiognhmaaGreatDoor

/-
  The contracts of laws.heldIntS, heldBoolS, heldOrderS, heldBook: where the marks stand, they are found. Mine, by template (wip/gen.py).
-/
namespace Go.Proofs.YteifekoiognhmaaGreatDoor
open Go.RowKit
end Go.Proofs.YteifekoiognhmaaGreatDoor

/-
  The contracts of spec.Begin, impl.Begin. Mine, by template (wip/gen.py).
-/
namespace Go.Proofs.YteifekoiognhmaaGreatDoor
open Go.RowKit

def beginBk (s : Int) : Bk := if 1 ≤ s ∧ s ≤ 60 then ⟨s, [], List.replicate s.toNat false, List.replicate s.toNat false⟩ else ⟨0, [], [], []⟩

theorem ownBook_zero (w : World) (lo : Nat) : OwnBook w lo (.agg #[.int .i64 0, .slice none 0 0, .slice none 0 0, .slice none 0 0]) ⟨0, [], [], []⟩ ⟨0, fun _ => 0, fun _ => none, fun _ => 0, 0, 0⟩ :=
  ⟨⟨none, 0, none, 0, none, 0, rfl, ⟨fun h => absurd h (by simp), fun h => absurd h (by simp), fun h => absurd h (by simp), fun i h => absurd h (by simp), fun i h => absurd h (by simp), fun i j h => absurd h (by simp)⟩, ⟨fun h => absurd h (by simp), fun h => absurd h (by simp), fun h => absurd h (by simp)⟩, ⟨fun h => absurd h (by simp), fun h => absurd h (by simp), fun h => absurd h (by simp)⟩⟩,
    fun h => absurd h (by simp), fun h => absurd h (by simp), fun h => absurd h (by simp), fun h => absurd h (by simp), fun h => absurd h (by simp)⟩

theorem ownBook_begin {w : World} {lo n a b : Nat} (ha : w.rowIs a 4 n (fun _ => .bool false)) (hb : w.rowIs b 4 n (fun _ => .bool false)) (hab : a ≠ b) (la : lo ≤ a) (lb : lo ≤ b) :
    OwnBook w lo (.agg #[.int .i64 (n : Int), .slice none 0 0, .slice (some ⟨a, 0, none⟩) n n, .slice (some ⟨b, 0, none⟩) n n]) ⟨(n : Int), [], List.replicate n false, List.replicate n false⟩ ⟨0, fun _ => 0, fun _ => none, fun _ => 0, a, b⟩ := by
  have el : (List.replicate n false).length = n := List.length_replicate
  refine ⟨⟨none, 0, some ⟨a, 0, none⟩, n, some ⟨b, 0, none⟩, n, by simp only [el]; rfl, ⟨fun h => absurd h (by simp), fun h => absurd h (by simp), fun h => absurd h (by simp), fun i h => absurd h (by simp), fun i h => absurd h (by simp), fun i j h => absurd h (by simp)⟩, ⟨fun _ => rfl, fun _ => ?_, fun _ => la⟩, ⟨fun _ => rfl, fun _ => ?_, fun _ => lb⟩⟩,
    fun h => absurd h (by simp), fun h => absurd h (by simp), fun _ _ => hab, fun _ i h => absurd h (by simp), fun _ i h => absurd h (by simp)⟩
  · show Pre w a _ (List.replicate n false).length _
    rw [el]; exact preOf (ha.congr (fun i hi => by simp [hi]))
  · show Pre w b _ (List.replicate n false).length _
    rw [el]; exact preOf (hb.congr (fun i hi => by simp [hi]))

theorem two_rows (w : World) (A : Obj) (n : Nat) :
    ((((w.alloc A).alloc (.cells (madeCells #[.bool false] n) 4)).alloc (.cells (madeCells #[.bool false] n) 4)).drew).rowIs (w.heap.size + 1) 4 n (fun _ => .bool false) ∧
    ((((w.alloc A).alloc (.cells (madeCells #[.bool false] n) 4)).alloc (.cells (madeCells #[.bool false] n) 4)).drew).rowIs (w.heap.size + 1 + 1) 4 n (fun _ => .bool false) := by
  have h1 := World.rowIs_made (w.alloc A) (.bool false) n 4
  have h2 := World.rowIs_made ((w.alloc A).alloc (.cells (madeCells #[.bool false] n) 4)) (.bool false) n 4
  have e1 : (w.alloc A).heap.size = w.heap.size + 1 := by simp
  have e2 : ((w.alloc A).alloc (.cells (madeCells #[.bool false] n) 4)).heap.size = w.heap.size + 1 + 1 := by simp
  rw [e1] at h1
  rw [e2] at h2
  exact ⟨(h1.alloc _).drew, h2.drew⟩

set_option maxHeartbeats 1000000 in
theorem specBegin_any (s : Int) (w : World) :
    Calls Tryz.prog 21 #[.int .i64 s] w fun e w' => ∃ v, e = .returned v ∧ (∃ K, OwnBook w' w.heap.size v (beginBk s) K) ∧ Below w.heap.size w w' := by
  by_cases h : 1 ≤ s ∧ s ≤ 60
  · obtain ⟨n, rfl⟩ := Int.eq_ofNat_of_zero_le (show 0 ≤ s by omega)
    have hmk := run_make_row' (P := Tryz.prog) 35 4 (.bool false) 1 Tryz.underlying35 Tryz.infoBool rfl .i64 .i64 n (by omega) (by omega)
    have hB : beginBk (n : Int) = ⟨(n : Int), [], List.replicate n false, List.replicate n false⟩ := by unfold beginBk; rw [if_pos h]; simp
    have HB : Hid (beginBk (n : Int) = ⟨(n : Int), [], List.replicate n false, List.replicate n false⟩) := hB
    obtain ⟨h1, h2⟩ := h
    clear hB
    go_enter Tryz.func21, Tryz.ntmps21
    go_wp2
    go_region
    · go_wp2
      refine bodyPost_ret (v := .agg #[.int .i64 (n : Int), .slice none 0 0, .slice (some ⟨w.heap.size + 1, 0, none⟩) n n, .slice (some ⟨w.heap.size + 1 + 1, 0, none⟩) n n]) (by simp [results, Tryz.results21, go_sem]) rfl ⟨_, rfl, ⟨⟨0, fun _ => 0, fun _ => none, fun _ => 0, w.heap.size + 1, w.heap.size + 1 + 1⟩, ?_⟩, ((below3 _ _ _ _).drew)⟩
      rw [HB.out]
      exact ownBook_begin (two_rows _ _ _).1 (two_rows _ _ _).2 (by omega) (by omega) (by omega)
    · go_wp2
      refine bodyPost_ret (v := .agg #[.int .i64 (n : Int), .slice none 0 0, .slice (some ⟨w.heap.size + 1 + 1, 0, none⟩) n n, .slice (some ⟨w.heap.size + 1, 0, none⟩) n n]) (by simp [results, Tryz.results21, go_sem]) rfl ⟨_, rfl, ⟨⟨0, fun _ => 0, fun _ => none, fun _ => 0, w.heap.size + 1 + 1, w.heap.size + 1⟩, ?_⟩, ((below3 _ _ _ _).drew)⟩
      rw [HB.out]
      exact ownBook_begin (two_rows _ _ _).2 (two_rows _ _ _).1 (by omega) (by omega) (by omega)
  · have HB : Hid (beginBk s = ⟨0, [], [], []⟩) := by unfold beginBk; exact if_neg h
    rcases (show s < 1 ∨ 60 < s by omega) with h1 | h1
    · have h2 : ¬ 1 ≤ s := by omega
      clear h
      go_enter Tryz.func21, Tryz.ntmps21
      go_wp2
      refine bodyPost_ret (v := .agg #[.int .i64 0, .slice none 0 0, .slice none 0 0, .slice none 0 0]) (by simp [results, Tryz.results21, go_sem]) rfl ⟨_, rfl, ⟨⟨0, fun _ => 0, fun _ => none, fun _ => 0, 0, 0⟩, ?_⟩, below1 _ _⟩
      rw [HB.out]
      exact ownBook_zero _ _
    · have h2 : 1 ≤ s := by omega
      have h3 : ¬ s ≤ 60 := by omega
      clear h
      go_enter Tryz.func21, Tryz.ntmps21
      go_wp2
      refine bodyPost_ret (v := .agg #[.int .i64 0, .slice none 0 0, .slice none 0 0, .slice none 0 0]) (by simp [results, Tryz.results21, go_sem]) rfl ⟨_, rfl, ⟨⟨0, fun _ => 0, fun _ => none, fun _ => 0, 0, 0⟩, ?_⟩, below1 _ _⟩
      rw [HB.out]
      exact ownBook_zero _ _

set_option maxHeartbeats 1000000 in
theorem implBegin_any (s : Int) (w : World) :
    Calls Tryz.prog 25 #[.int .i64 s] w fun e w' => ∃ v, e = .returned v ∧ (∃ K, OwnBook w' w.heap.size v (beginBk s) K) ∧ Below w.heap.size w w' := by
  by_cases h : 1 ≤ s ∧ s ≤ 60
  · obtain ⟨n, rfl⟩ := Int.eq_ofNat_of_zero_le (show 0 ≤ s by omega)
    have hmk := run_make_row' (P := Tryz.prog) 35 4 (.bool false) 1 Tryz.underlying35 Tryz.infoBool rfl .i64 .i64 n (by omega) (by omega)
    have hB : beginBk (n : Int) = ⟨(n : Int), [], List.replicate n false, List.replicate n false⟩ := by unfold beginBk; rw [if_pos h]; simp
    have HB : Hid (beginBk (n : Int) = ⟨(n : Int), [], List.replicate n false, List.replicate n false⟩) := hB
    obtain ⟨h1, h2⟩ := h
    clear hB
    go_enter Tryz.func25, Tryz.ntmps25
    go_wp2
    go_region
    · go_wp2
      refine bodyPost_ret (v := .agg #[.int .i64 (n : Int), .slice none 0 0, .slice (some ⟨w.heap.size + 1, 0, none⟩) n n, .slice (some ⟨w.heap.size + 1 + 1, 0, none⟩) n n]) (by simp [results, Tryz.results25, go_sem]) rfl ⟨_, rfl, ⟨⟨0, fun _ => 0, fun _ => none, fun _ => 0, w.heap.size + 1, w.heap.size + 1 + 1⟩, ?_⟩, ((below3 _ _ _ _).drew)⟩
      rw [HB.out]
      exact ownBook_begin (two_rows _ _ _).1 (two_rows _ _ _).2 (by omega) (by omega) (by omega)
    · go_wp2
      refine bodyPost_ret (v := .agg #[.int .i64 (n : Int), .slice none 0 0, .slice (some ⟨w.heap.size + 1 + 1, 0, none⟩) n n, .slice (some ⟨w.heap.size + 1, 0, none⟩) n n]) (by simp [results, Tryz.results25, go_sem]) rfl ⟨_, rfl, ⟨⟨0, fun _ => 0, fun _ => none, fun _ => 0, w.heap.size + 1 + 1, w.heap.size + 1⟩, ?_⟩, ((below3 _ _ _ _).drew)⟩
      rw [HB.out]
      exact ownBook_begin (two_rows _ _ _).2 (two_rows _ _ _).1 (by omega) (by omega) (by omega)
  · have HB : Hid (beginBk s = ⟨0, [], [], []⟩) := by unfold beginBk; exact if_neg h
    rcases (show s < 1 ∨ 60 < s by omega) with h1 | h1
    · have h2 : ¬ 1 ≤ s := by omega
      clear h
      go_enter Tryz.func25, Tryz.ntmps25
      go_wp2
      refine bodyPost_ret (v := .agg #[.int .i64 0, .slice none 0 0, .slice none 0 0, .slice none 0 0]) (by simp [results, Tryz.results25, go_sem]) rfl ⟨_, rfl, ⟨⟨0, fun _ => 0, fun _ => none, fun _ => 0, 0, 0⟩, ?_⟩, below1 _ _⟩
      rw [HB.out]
      exact ownBook_zero _ _
    · have h2 : 1 ≤ s := by omega
      have h3 : ¬ s ≤ 60 := by omega
      clear h
      go_enter Tryz.func25, Tryz.ntmps25
      go_wp2
      refine bodyPost_ret (v := .agg #[.int .i64 0, .slice none 0 0, .slice none 0 0, .slice none 0 0]) (by simp [results, Tryz.results25, go_sem]) rfl ⟨_, rfl, ⟨⟨0, fun _ => 0, fun _ => none, fun _ => 0, 0, 0⟩, ?_⟩, below1 _ _⟩
      rw [HB.out]
      exact ownBook_zero _ _

end Go.Proofs.YteifekoiognhmaaGreatDoor
