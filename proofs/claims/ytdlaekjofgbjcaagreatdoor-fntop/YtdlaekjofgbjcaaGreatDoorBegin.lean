/-
 The contracts of spec.Begin, impl.Begin. Mine, by template (wip/gen.py).
-/
import Derived.Test.YtdlaekjofgbjcaaGreatDoorBaseZ
import Derived.RegionTactic
import Derived.BigRegion
namespace Go.Proofs.YtdlaekjofgbjcaaGreatDoor
open Go.RowKit
def beginBk (s : Int) : Bk := if 1 ≤ s ∧ s ≤ 60 then ⟨s, [], List.replicate s.toNat false, List.replicate s.toNat false⟩ else ⟨0, [], [], []⟩
theorem ownBook_zero (w : World) (lo : Nat) : OwnBook w lo (.agg #[.int .i64 0, .slice none 0 0, .slice none 0 0, .slice none 0 0]) ⟨0, [], [], []⟩ ⟨0, fun _ => 0, fun _ => none, fun _ => 0, 0, 0⟩ :=
 ⟨⟨none, 0, none, 0, none, 0, rfl, ⟨fun h => absurd h (by simp), fun h => absurd h (by simp), fun h => absurd h (by simp), fun i h => absurd h (by simp), fun i h => absurd h (by simp), fun i j h => absurd h (by simp)⟩, ⟨fun h => absurd h (by simp), fun h => absurd h (by simp), fun h => absurd h (by simp)⟩, ⟨fun h => absurd h (by simp), fun h => absurd h (by simp), fun h => absurd h (by simp)⟩⟩,
  fun h => absurd h (by simp), fun h => absurd h (by simp), fun h => absurd h (by simp), fun h => absurd h (by simp), fun h => absurd h (by simp)⟩
theorem ownBook_begin {w : World} {lo n a b : Nat} (ha : w.rowIs a 4 n (fun _ => .bool false)) (hb : w.rowIs b 4 n (fun _ => .bool false)) (hab : a ≠ b) (la : lo ≤ a) (lb : lo ≤ b) :
  OwnBook w lo (.agg #[.int .i64 (n : Int), .slice none 0 0, .slice (some ⟨a, 0, none⟩) n n, .slice (some ⟨b, 0, none⟩) n n]) ⟨(n : Int), [], List.replicate n false, List.replicate n false⟩ ⟨0, fun _ => 0, fun _ => none, fun _ => 0, a, b⟩ := by
 have el : (List.replicate n false).length = n := List.length_replicate
 refine ⟨⟨none, 0, some ⟨a, 0, none⟩, n, some ⟨b, 0, none⟩, n, by simp only [el]; rfl, ⟨fun h => absurd h (by simp), fun h => absurd h (by simp), fun h => absurd h (by simp), fun i h => absurd h (by simp), fun i h => absurd h (by simp), fun i j h => absurd h (by simp)⟩, ⟨fun _ => rfl, fun _ => ?_, fun _ => la⟩, ⟨fun _ => rfl, fun _ => ?_, fun _ => lb⟩⟩,
  fun h => absurd h (by simp), fun h => absurd h (by simp), fun _ _ => hab, fun _ i h => absurd h (by simp), fun _ i h => absurd h (by simp)⟩
 ·
  show Pre w a _ (List.replicate n false).length _
  rw [el]; exact preOf (ha.congr (fun i hi => by simp [hi]))
 ·
  show Pre w b _ (List.replicate n false).length _
  rw [el]; exact preOf (hb.congr (fun i hi => by simp [hi]))
theorem two_rows (w : World) (A : Obj) (n : Nat) :
  ((((w.alloc A).alloc (.cells (madeCells #[.bool false] n) 4)).alloc (.cells (madeCells #[.bool false] n) 4)).drew).rowIs (w.heap.size + 1) 4 n (fun _ => .bool false) ∧
  ((((w.alloc A).alloc (.cells (madeCells #[.bool false] n) 4)).alloc (.cells (madeCells #[.bool false] n) 4)).drew).rowIs (w.heap.size + 1 + 1) 4 n (fun _ => .bool false) := by
 have h1 := World.rowIs_made (w.alloc A) (.bool false) n 4; have h2 := World.rowIs_made ((w.alloc A).alloc (.cells (madeCells #[.bool false] n) 4)) (.bool false) n 4; have e1 : (w.alloc A).heap.size = w.heap.size + 1 := by simp
 have e2 : ((w.alloc A).alloc (.cells (madeCells #[.bool false] n) 4)).heap.size = w.heap.size + 1 + 1 := by simp
 rw [e1] at h1; rw [e2] at h2; exact ⟨(h1.alloc _).drew, h2.drew⟩
set_option maxHeartbeats 1000000 in
theorem specBegin_any (s : Int) (w : World) :
  Calls Tryz.prog 21 #[.int .i64 s] w fun e w' => ∃ v, e = .returned v ∧ (∃ K, OwnBook w' w.heap.size v (beginBk s) K) ∧ Below w.heap.size w w' := by
 by_cases h : 1 ≤ s ∧ s ≤ 60
 ·
  obtain ⟨n, rfl⟩ := Int.eq_ofNat_of_zero_le (show 0 ≤ s by omega); have hmk := run_make_row' (P := Tryz.prog) 35 4 (.bool false) 1 Tryz.underlying35 Tryz.infoBool rfl .i64 .i64 n (by omega) (by omega); have hB : beginBk (n : Int) = ⟨(n : Int), [], List.replicate n false, List.replicate n false⟩ := by unfold beginBk; rw [if_pos h]; simp
  have HB : Hid (beginBk (n : Int) = ⟨(n : Int), [], List.replicate n false, List.replicate n false⟩) := hB; obtain ⟨h1, h2⟩ := h; clear hB
  go_enter Tryz.func21, Tryz.ntmps21
  go_wp2; go_region
  ·
   go_wp2; refine bodyPost_ret (v := .agg #[.int .i64 (n : Int), .slice none 0 0, .slice (some ⟨w.heap.size + 1, 0, none⟩) n n, .slice (some ⟨w.heap.size + 1 + 1, 0, none⟩) n n]) (by simp [results, Tryz.results21, go_sem]) rfl ⟨_, rfl, ⟨⟨0, fun _ => 0, fun _ => none, fun _ => 0, w.heap.size + 1, w.heap.size + 1 + 1⟩, ?_⟩, ((below3 _ _ _ _).drew)⟩; rw [HB.out]; exact ownBook_begin (two_rows _ _ _).1 (two_rows _ _ _).2 (by omega) (by omega) (by omega)
  ·
   go_wp2; refine bodyPost_ret (v := .agg #[.int .i64 (n : Int), .slice none 0 0, .slice (some ⟨w.heap.size + 1 + 1, 0, none⟩) n n, .slice (some ⟨w.heap.size + 1, 0, none⟩) n n]) (by simp [results, Tryz.results21, go_sem]) rfl ⟨_, rfl, ⟨⟨0, fun _ => 0, fun _ => none, fun _ => 0, w.heap.size + 1 + 1, w.heap.size + 1⟩, ?_⟩, ((below3 _ _ _ _).drew)⟩; rw [HB.out]; exact ownBook_begin (two_rows _ _ _).2 (two_rows _ _ _).1 (by omega) (by omega) (by omega)
 ·
  have HB : Hid (beginBk s = ⟨0, [], [], []⟩) := by unfold beginBk; exact if_neg h
  rcases (show s < 1 ∨ 60 < s by omega) with h1 | h1
  ·
   have h2 : ¬ 1 ≤ s := by omega
   clear h
   go_enter Tryz.func21, Tryz.ntmps21
   go_wp2; refine bodyPost_ret (v := .agg #[.int .i64 0, .slice none 0 0, .slice none 0 0, .slice none 0 0]) (by simp [results, Tryz.results21, go_sem]) rfl ⟨_, rfl, ⟨⟨0, fun _ => 0, fun _ => none, fun _ => 0, 0, 0⟩, ?_⟩, below1 _ _⟩; rw [HB.out]; exact ownBook_zero _ _
  ·
   have h2 : 1 ≤ s := by omega
   have h3 : ¬ s ≤ 60 := by omega
   clear h
   go_enter Tryz.func21, Tryz.ntmps21
   go_wp2; refine bodyPost_ret (v := .agg #[.int .i64 0, .slice none 0 0, .slice none 0 0, .slice none 0 0]) (by simp [results, Tryz.results21, go_sem]) rfl ⟨_, rfl, ⟨⟨0, fun _ => 0, fun _ => none, fun _ => 0, 0, 0⟩, ?_⟩, below1 _ _⟩; rw [HB.out]; exact ownBook_zero _ _
set_option maxHeartbeats 1000000 in
theorem implBegin_any (s : Int) (w : World) :
  Calls Tryz.prog 25 #[.int .i64 s] w fun e w' => ∃ v, e = .returned v ∧ (∃ K, OwnBook w' w.heap.size v (beginBk s) K) ∧ Below w.heap.size w w' := by
 by_cases h : 1 ≤ s ∧ s ≤ 60
 ·
  obtain ⟨n, rfl⟩ := Int.eq_ofNat_of_zero_le (show 0 ≤ s by omega); have hmk := run_make_row' (P := Tryz.prog) 35 4 (.bool false) 1 Tryz.underlying35 Tryz.infoBool rfl .i64 .i64 n (by omega) (by omega); have hB : beginBk (n : Int) = ⟨(n : Int), [], List.replicate n false, List.replicate n false⟩ := by unfold beginBk; rw [if_pos h]; simp
  have HB : Hid (beginBk (n : Int) = ⟨(n : Int), [], List.replicate n false, List.replicate n false⟩) := hB; obtain ⟨h1, h2⟩ := h; clear hB
  go_enter Tryz.func25, Tryz.ntmps25
  go_wp2; go_region
  ·
   go_wp2; refine bodyPost_ret (v := .agg #[.int .i64 (n : Int), .slice none 0 0, .slice (some ⟨w.heap.size + 1, 0, none⟩) n n, .slice (some ⟨w.heap.size + 1 + 1, 0, none⟩) n n]) (by simp [results, Tryz.results25, go_sem]) rfl ⟨_, rfl, ⟨⟨0, fun _ => 0, fun _ => none, fun _ => 0, w.heap.size + 1, w.heap.size + 1 + 1⟩, ?_⟩, ((below3 _ _ _ _).drew)⟩; rw [HB.out]; exact ownBook_begin (two_rows _ _ _).1 (two_rows _ _ _).2 (by omega) (by omega) (by omega)
  ·
   go_wp2; refine bodyPost_ret (v := .agg #[.int .i64 (n : Int), .slice none 0 0, .slice (some ⟨w.heap.size + 1 + 1, 0, none⟩) n n, .slice (some ⟨w.heap.size + 1, 0, none⟩) n n]) (by simp [results, Tryz.results25, go_sem]) rfl ⟨_, rfl, ⟨⟨0, fun _ => 0, fun _ => none, fun _ => 0, w.heap.size + 1 + 1, w.heap.size + 1⟩, ?_⟩, ((below3 _ _ _ _).drew)⟩; rw [HB.out]; exact ownBook_begin (two_rows _ _ _).2 (two_rows _ _ _).1 (by omega) (by omega) (by omega)
 ·
  have HB : Hid (beginBk s = ⟨0, [], [], []⟩) := by unfold beginBk; exact if_neg h
  rcases (show s < 1 ∨ 60 < s by omega) with h1 | h1
  ·
   have h2 : ¬ 1 ≤ s := by omega
   clear h
   go_enter Tryz.func25, Tryz.ntmps25
   go_wp2; refine bodyPost_ret (v := .agg #[.int .i64 0, .slice none 0 0, .slice none 0 0, .slice none 0 0]) (by simp [results, Tryz.results25, go_sem]) rfl ⟨_, rfl, ⟨⟨0, fun _ => 0, fun _ => none, fun _ => 0, 0, 0⟩, ?_⟩, below1 _ _⟩; rw [HB.out]; exact ownBook_zero _ _
  ·
   have h2 : 1 ≤ s := by omega
   have h3 : ¬ s ≤ 60 := by omega
   clear h
   go_enter Tryz.func25, Tryz.ntmps25
   go_wp2; refine bodyPost_ret (v := .agg #[.int .i64 0, .slice none 0 0, .slice none 0 0, .slice none 0 0]) (by simp [results, Tryz.results25, go_sem]) rfl ⟨_, rfl, ⟨⟨0, fun _ => 0, fun _ => none, fun _ => 0, 0, 0⟩, ?_⟩, below1 _ _⟩; rw [HB.out]; exact ownBook_zero _ _
end Go.Proofs.YtdlaekjofgbjcaaGreatDoor
